import Derived.Test.YtoabnpdoicbpiaaGreatMathG
import Derived.Test.YtoabnpdoicbpiaaGreatChecked
import Derived.Deep.Fields
import Derived.ChangeSlices
import Derived.Test.YtoabnpdoicbpiaaGreatRn0G
import Derived.Test.YtoabnpdoicbpiaaGreatWkG
import Derived.Test.YtoabnpdoicbpiaaGreatRows
namespace Go.Proofs.YtoabnpdoicbpiaaGreat
set_option linter.unusedVariables false
open Go.ChangeShapes Go.WideShapes Go.Deep
section
variable {H : Type} {enc : TypeId × Value → H} {P : Program} {w : World} {base : Nat} {spare : Nat → Bool} {held : Bool}
end
theorem struct_of {t : TypeId} {k : Nat} {ts : List TypeId} (h : (Tryz.prog.underlying t).bind (fun u => match u with | .struct fs => some (oneCellFields Tryz.prog fs && decide (Tryz.prog.cellsOf t = fs.size) && decide (fs.size = k) && (fs.toList.map (·.type) == ts)) | _ => none) = some true) :
  ∃ fs : Array Field, Tryz.prog.underlying t = some (.struct fs) ∧ oneCellFields Tryz.prog fs = true ∧ Tryz.prog.cellsOf t = fs.size ∧ fs.size = k ∧ ∀ j, j < k → ∃ f, fs[j]? = some f ∧ ts[j]? = some f.type := by
 obtain ⟨u, hu, h⟩ := Option.bind_eq_some_iff.1 h
 split at h
 ·rename_i fs
  simp only [Option.some.injEq, Bool.and_eq_true, decide_eq_true_eq, beq_iff_eq] at h
  refine ⟨fs, hu, h.1.1.1, h.1.1.2, h.1.2, fun j hj => ?_⟩
  have hj' : j < fs.size := by omega
  refine ⟨fs[j], by simp [hj'], ?_⟩
  rw [← h.2]
  simp [hj']
 ·cases h
end Go.Proofs.YtoabnpdoicbpiaaGreat
namespace Go.Proofs.YtoabnpdoicbpiaaGreat.Frj
set_option linter.unusedVariables false
set_option linter.unusedSimpArgs false
open Go.RowKit Go.Shelf Go.Maps Go.Proofs.YtoabnpdoicbpiaaGreat.Nm
open Go.ChangeShapes Go.WideShapes Go.Deep
theorem bulk_pos {H : Type} (d : DataW H) : 1 ≤ Rows.uptoBulk d := by
 cases d with
 | lit l => cases l <;> simp [Rows.uptoBulk]
 | _ => simp [Rows.uptoBulk]
theorem bulk_len {H : Type} : ∀ l : List (DataW H), l.length ≤ Rows.uptoBulkAll l
 | [] => by simp [Rows.uptoBulkAll]
 | d :: l => by
  have := bulk_len l
  have := bulk_pos d
  simp only [Rows.uptoBulkAll, List.length_cons]
  omega
theorem oneR : (Tryz.prog.underlying 29).bind (fun t => match t with | .struct fs => some (oneCellFields Tryz.prog fs && decide (Tryz.prog.cellsOf 29 = fs.size) && decide (fs.size = 5) && (fs.toList.map (·.type) == [9, 3, 3, 3, 9])) | _ => none) = some true := by kernel_rfl
section
variable {H : Type} {enc : TypeId × Value → H} {P : Program} {w : World} {base : Nat} {spare : Nat → Bool} {held : Bool}
theorem rows_openS {t e : TypeId} {fs : Array Field} {fuel : Nat} {v : Value} {x : DataW H × List MemPlace} (ht : P.underlying t = some (.slice e)) (he : P.underlying e = some (.struct fs)) (hone : oneCellFields P fs = true) (hC : P.cellsOf e = fs.size) (hpos : 0 < fs.size)
  (h : DataW.trod enc P w base spare held fuel t [v] = some x) :
  ∃ (a : Option Addr) (len cap : Nat) (D : Nat → DataW H), v = .slice a len cap ∧ (a = none → cap = 0) ∧ len ≤ Rows.uptoBulk x.1 ∧ (0 < len → Rows.uptoBulkAll ((List.range len).map D) + 1 ≤ Rows.uptoBulk x.1) ∧ ∀ i, i < len → ∃ b o n, ∃ xs : List (DataW H × List MemPlace), a = some ⟨b, o, none⟩ ∧ b < w.heap.size ∧ D i = .agg (xs.map (·.1)) ∧ xs.length = fs.size ∧ ∀ (j : Nat) (f : Field), fs[j]? = some f → ∃ V y, w.cell? ⟨b, o + i * fs.size + j, none⟩ = some V ∧ DataW.trod enc P w base spare held n f.type [V] = some y ∧ xs[j]? = some y := by
 rcases open_slice ht h with ⟨hv, _⟩ | ⟨a, len, cap, m, n, D, Pl, hv, hb, hl, hm, hmm, hx, hel⟩
 ·obtain rfl : v = .slice none 0 0 := by simpa using hv
  exact ⟨none, 0, 0, fun _ => .nil, rfl, fun _ => rfl, Nat.zero_le _, fun h => absurd h (Nat.lt_irrefl _), fun i hi => absurd hi (Nat.not_lt_zero _)⟩
 ·obtain rfl : v = .slice (some a) len cap := by simpa using hv
  have hlb : len ≤ Rows.uptoBulk x.1 := by
   rw [hx]
   have := bulk_len ((List.range len).map D)
   simp only [List.length_map, List.length_range] at this
   simp only [Rows.uptoBulk]
   omega
  have hsum : Rows.uptoBulkAll ((List.range len).map D) + 1 ≤ Rows.uptoBulk x.1 := by
   rw [hx]
   simp only [Rows.uptoBulk]
   omega
  refine ⟨some a, len, cap, D, rfl, (fun e => by cases e), hlb, fun _ => hsum, fun i hi => ?_⟩
  obtain ⟨b, o, spot⟩ := a
  have hspot : spot = none := by
   obtain ⟨cs0, hcs0, _⟩ := hel 0 (by rw [hmm]; split <;> omega)
   rw [hC] at hcs0
   obtain ⟨_, hlen0, hcell0⟩ := World.cells?_some hcs0
   have h0 := hcell0 0 hpos
   rw [List.getElem?_eq_getElem (by omega)] at h0
   have := World.cell?_spot h0
   simpa [Addr.add] using this
  obtain ⟨cs', hcs, htr⟩ := hel i (by rw [hmm]; split <;> omega)
  rw [hC] at hcs
  obtain ⟨_, hlen, hcell⟩ := World.cells?_some hcs
  obtain ⟨xs, k, _, hxe, _, hxl, hf⟩ := DataW.trod_struct he htr
  have h0 := hcell 0 hpos
  rw [List.getElem?_eq_getElem (by omega)] at h0
  subst hspot
  have ha : ∀ j, ((⟨b, o, none⟩ : Addr).add (i * fs.size)).add j = ⟨b, o + i * fs.size + j, none⟩ := fun j => by rw [add_add, addr_add, Nat.add_assoc]
  refine ⟨b, o, k, xs, rfl, ?_, congrArg Prod.fst hxe, hxl, fun j f hj => ?_⟩
  ·rw [ha] at h0
   unfold World.cell? at h0
   split at h0
   ·rename_i hh
    exact (Array.getElem?_eq_some_iff.1 hh).1
   ·cases h0
  ·have hlt : j < fs.size := (Array.getElem?_eq_some_iff.1 hj).1
   obtain ⟨ho, hc1⟩ := hone_of hone j f hj
   have g := hf j f hj
   rw [ho, hc1, take1_drop _ j undef (by omega)] at g
   have hc := hcell j hlt
   rw [ha, List.getElem?_eq_getElem (by omega)] at hc
   refine ⟨cs'.getD j undef, xs[j]'(by omega), ?_, by rw [g, List.getElem?_eq_getElem (by omega)], List.getElem?_eq_getElem (by omega)⟩
   rw [hc, List.getD_eq_getElem?_getD, List.getElem?_eq_getElem (by omega)]; rfl
end
theorem bulk_mem {H : Type} : ∀ (l : List (DataW H)) (d : DataW H), d ∈ l → Rows.uptoBulk d ≤ Rows.uptoBulkAll l
 | [], d, h => by cases h
 | e :: l, d, h => by
  simp only [Rows.uptoBulkAll]
  rcases List.mem_cons.1 h with rfl | h
  ·omega
  ·have := bulk_mem l d h
   omega
section
variable {H : Type} {enc : TypeId × Value → H} {w : World} {base : Nat} {spare : Nat → Bool} {held : Bool}
theorem rs_openJ {fuel : Nat} {v : Value} {x : DataW H × List MemPlace} (h : DataW.trod enc Tryz.prog w base spare held fuel 22 [v] = some x) :
  ∃ (a : Option Addr) (cap : Nat) (L : List Rn), v = .slice a L.length cap ∧ (a = none → cap = 0) ∧ RsAt w a L ∧ (∀ q ∈ L, q.o.size ≤ maxLen ∧ q.d.size ≤ maxLen) ∧ L.length ≤ Rows.uptoBulk x.1 ∧ ∀ q ∈ L, q.o.size + q.d.size ≤ Rows.uptoBulk x.1 := by
 obtain ⟨fs, hs, hone, hC, h3, hty⟩ := struct_of oneR
 obtain ⟨a, len, cap, D, rfl, hn, hlb, hsum, hel⟩ := rows_openS Tryz.underlying22 hs hone hC (by omega) h
 haveI : Inhabited Rn := ⟨⟨.empty, 0, 0, 0, .empty⟩⟩
 obtain ⟨F, hF⟩ := choose_lt (α := Rn) (n := len) (p := fun i q => ∃ b o, a = some ⟨b, o, none⟩ ∧ b < w.heap.size ∧ w.cell? ⟨b, o + i * 5, none⟩ = some (.string q.o) ∧ w.cell? ⟨b, o + i * 5 + 1, none⟩ = some (.int .i64 q.t) ∧ w.cell? ⟨b, o + i * 5 + 2, none⟩ = some (.int .i64 q.c) ∧ w.cell? ⟨b, o + i * 5 + 3, none⟩ = some (.int .i64 q.l) ∧ w.cell? ⟨b, o + i * 5 + 4, none⟩ = some (.string q.d) ∧ q.o.size ≤ maxLen ∧ q.d.size ≤ maxLen ∧ q.o.size + q.d.size + 6 ≤ Rows.uptoBulk (D i)) (fun i hi => by
        obtain ⟨b, o, n, xs, ha, hb, hDi, hxs, hf⟩ := hel i hi
        rw [h3] at hf hxs
        obtain ⟨f0, g0, t0⟩ := hty 0 (by omega)
        obtain ⟨f1, g1, t1⟩ := hty 1 (by omega)
        obtain ⟨f2, g2, t2⟩ := hty 2 (by omega)
        obtain ⟨f3, g3, t3⟩ := hty 3 (by omega)
        obtain ⟨f4, g4, t4⟩ := hty 4 (by omega)
        obtain ⟨V0, y0, c0, r0, k0⟩ := hf 0 f0 g0
        rw [← Option.some.inj t0] at r0
        obtain ⟨V1, y1, c1, r1, k1⟩ := hf 1 f1 g1
        rw [← Option.some.inj t1] at r1
        obtain ⟨V2, y2, c2, r2, k2⟩ := hf 2 f2 g2
        rw [← Option.some.inj t2] at r2
        obtain ⟨V3, y3, c3, r3, k3⟩ := hf 3 f3 g3
        rw [← Option.some.inj t3] at r3
        obtain ⟨V4, y4, c4, r4, k4⟩ := hf 4 f4 g4
        rw [← Option.some.inj t4] at r4
        obtain ⟨s0, e0, hy0, z0⟩ := DataW.trod_string Tryz.underlying9 r0
        obtain rfl : V0 = .string s0 := by simpa using e0
        obtain ⟨n1, e1, hy1, _⟩ := DataW.trod_int Tryz.underlying3 r1
        obtain rfl : V1 = .int .i64 n1 := by simpa using e1
        obtain ⟨n2, e2, hy2, _⟩ := DataW.trod_int Tryz.underlying3 r2
        obtain rfl : V2 = .int .i64 n2 := by simpa using e2
        obtain ⟨n3, e3, hy3, _⟩ := DataW.trod_int Tryz.underlying3 r3
        obtain rfl : V3 = .int .i64 n3 := by simpa using e3
        obtain ⟨s4, e4, hy4, z4⟩ := DataW.trod_string Tryz.underlying9 r4
        obtain rfl : V4 = .string s4 := by simpa using e4
        have kk : s0.size + s4.size + 6 ≤ Rows.uptoBulk (D i) := by
         obtain ⟨l0, l1, l2, l3, l4, rfl⟩ : ∃ l0 l1 l2 l3 l4, xs = [l0, l1, l2, l3, l4] := by
          match xs, hxs with
    | [l0, l1, l2, l3, l4], _ => exact ⟨l0, l1, l2, l3, l4, rfl⟩
         simp only [List.getElem?_cons_zero, List.getElem?_cons_succ, Option.some.injEq] at k0 k1 k2 k3 k4
         subst k0
         subst k1
         subst k2
         subst k3
         subst k4
         rw [hDi, hy0, hy1, hy2, hy3, hy4]
         simp only [List.map_cons, List.map_nil, Rows.uptoBulk, Rows.uptoBulkAll, Array.length_toList]
         have q0 : s0.data.size = s0.size := rfl
         have q4 : s4.data.size = s4.size := rfl
         omega
        exact ⟨⟨s0, n1, n2, n3, s4⟩, b, o, ha, hb, c0, c1, c2, c3, c4, z0, z4, kk⟩)
 refine ⟨a, cap, (List.range len).map F, by simp, hn, fun k hk => ?_, fun q hq => ?_, by simpa using hlb, fun q hq => ?_⟩
 ·have hk' : k < len := by simpa using hk
  obtain ⟨b, o, ha, hb, c0, c1, c2, c3, c4, _⟩ := hF k hk'
  exact ⟨b, o, ha, hb, by simpa using c0, by simpa using c1, by simpa using c2, by simpa using c3, by simpa using c4⟩
 ·obtain ⟨i, hi, rfl⟩ := List.mem_map.1 hq
  obtain ⟨_, _, _, _, _, _, _, _, _, z0, z4, _⟩ := hF i (List.mem_range.1 hi)
  exact ⟨z0, z4⟩
 ·obtain ⟨i, hi, rfl⟩ := List.mem_map.1 hq
  have hi2 := List.mem_range.1 hi
  obtain ⟨_, _, _, _, _, _, _, _, _, _, _, z⟩ := hF i hi2
  have h1 := hsum (by omega)
  have h2 := bulk_mem ((List.range len).map D) (D i) (List.mem_map.2 ⟨i, List.mem_range.2 hi2, rfl⟩)
  omega
end
end Go.Proofs.YtoabnpdoicbpiaaGreat.Frj
