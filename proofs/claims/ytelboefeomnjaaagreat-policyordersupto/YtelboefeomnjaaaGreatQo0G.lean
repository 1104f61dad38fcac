import Derived.Test.YtelboefeomnjaaaGreatSgvG
import Derived.Test.YtelboefeomnjaaaGreatPo7G
import Derived.Shelf.RegionOpen
import Derived.Test.YtelboefeomnjaaaGreatPo5G
/-
  Proofs: data.Target of an SRV to the letter; the reference's number and isSet. (The verifier's own text.)
-/
namespace Go.Proofs.YtelboefeomnjaaaGreat
set_option linter.unusedVariables false
set_option linter.unusedSimpArgs false
open Go.RowKit Go.Shelf Go.Maps Go.Proofs.YtelboefeomnjaaaGreat.Nm Go.Proofs.YtelboefeomnjaaaGreat.Zs

theorem parts_cons {k : Kind} {ks : List Kind} {d : ByteArray} {ps : List (Kind × ByteArray)} (h : partsOf (k :: ks) d = some ps) : ∃ n qs, kindSize k d = some n ∧ partsOf ks (d.extract n d.size) = some qs ∧ ps = (k, d.extract 0 n) :: qs := by
  unfold partsOf at h
  cases hs : kindSize k d with
  | none => rw [hs] at h; cases h
  | some n =>
    rw [hs] at h
    simp only [Option.map_eq_some_iff] at h
    obtain ⟨q, hq, rfl⟩ := h
    exact ⟨n, q, rfl, hq, rfl⟩
theorem parts_nil {d : ByteArray} {ps : List (Kind × ByteArray)} (h : partsOf [] d = some ps) : d.size = 0 ∧ ps = [] := by
  unfold partsOf at h
  split at h
  · rename_i h0; exact ⟨h0, by injection h with h; exact h.symm⟩
  · cases h
theorem cut_cut (d : ByteArray) (a b : Nat) (hb : a + b ≤ d.size) : (d.extract a d.size).extract b (d.extract a d.size).size = d.extract (a + b) d.size := by
  apply ByteArray.ext
  rw [ByteArray.data_extract, ByteArray.data_extract, ByteArray.data_extract, ByteArray.size_extract, Array.extract_extract]
  congr 1
  have : d.data.size = d.size := rfl
  omega
/-- the one name of an SRV -/
theorem srv_name {d : ByteArray} (h : errD 33 d = 0) : namesD 33 d = [d.extract 6 d.size] ∧ 6 ≤ d.size ∧ d.size ≤ 65535 := by
  obtain ⟨ps, hp⟩ := errD_zero h
  have hk : kindsOf 33 = some [.num 2, .num 2, .num 2, .dom] := by decide
  have hN : namesD 33 d = namesOf ps := by unfold namesD; rw [hp]
  unfold partsD at hp
  rw [hk] at hp
  simp only at hp
  split at hp
  · cases hp
  · rename_i h6
    obtain ⟨n1, q1, a1, p1, rfl⟩ := parts_cons hp
    obtain ⟨rfl, b1⟩ := fix_le (n := 2) (show fixS 2 d = some n1 from a1)
    obtain ⟨n2, q2, a2, p2, rfl⟩ := parts_cons p1
    obtain ⟨rfl, b2⟩ := fix_le (n := 2) (show fixS 2 (d.extract 2 d.size) = some n2 from a2)
    rw [ByteArray.size_extract] at b2
    rw [show (d.extract 2 d.size).extract 2 (d.extract 2 d.size).size = d.extract 4 d.size from cut_cut d 2 2 (by omega)] at p2
    obtain ⟨n3, q3, a3, p3, rfl⟩ := parts_cons p2
    obtain ⟨rfl, b3⟩ := fix_le (n := 2) (show fixS 2 (d.extract 4 d.size) = some n3 from a3)
    rw [ByteArray.size_extract] at b3
    rw [show (d.extract 4 d.size).extract 2 (d.extract 4 d.size).size = d.extract 6 d.size from cut_cut d 4 2 (by omega)] at p3
    obtain ⟨n4, q4, a4, p4, rfl⟩ := parts_cons p3
    obtain ⟨h0, rfl⟩ := parts_nil p4
    rw [ByteArray.size_extract] at h0
    have e : (d.extract 6 d.size).extract 0 n4 = d.extract 6 d.size := by
      apply ByteArray.ext
      rw [ByteArray.data_extract]
      apply Array.extract_eq_self_of_le
      have : (d.extract 6 d.size).data.size = (d.extract 6 d.size).size := rfl
      omega
    refine ⟨?_, by omega, by omega⟩
    rw [hN]
    rw [e]
    rfl
set_option maxRecDepth 100000 in
set_option maxHeartbeats 2000000 in
/-- data.Target of an SRV -/
theorem target33_at (o d : ByteArray) (c l : Int) (w : World) (hd : errD 33 d = 0) :
    Calls Tryz.prog 19 #[.agg #[.string o, .int .i64 33, .int .i64 c, .int .i64 l, .string d]] w fun e w' => e = .returned (.string (d.extract 6 d.size)) ∧ Below w.heap.size w w' := by
  have hx : Bx (w.alloc (.cells #[.string o, .int .i64 33, .int .i64 c, .int .i64 l, .string d] 42)) w.heap.size #[.string o, .int .i64 33, .int .i64 c, .int .i64 l, .string d] 42 := World.alloc_heap_new w _
  have hbl : Below w.heap.size w (w.alloc (.cells #[.string o, .int .i64 33, .int .i64 c, .int .i64 l, .string d] 42)) := (Below.refl _ w).alloc (Nat.le_refl _) _
  obtain ⟨wa, hwa⟩ : ∃ wa, w.alloc (.cells #[.string o, .int .i64 33, .int .i64 c, .int .i64 l, .string d] 42) = wa := ⟨_, rfl⟩
  rw [hwa] at hx hbl
  have v1 : wa.cell? ⟨w.heap.size, 1, none⟩ = some (.int .i64 33) := hx.cell rfl
  have v4 : wa.cell? ⟨w.heap.size, 4, none⟩ = some (.string d) := hx.cell rfl
  have HB0 := hide' hbl
  obtain ⟨hN, h6, h7⟩ := srv_name hd
  have HNm := hide' (fun V => names_any 33 d V (by omega))
  generalize d.extract 6 d.size = s at *
  rw [hN] at HNm
  have HZ : Hid (∀ (V : World) p c b, V.ownsRow b 9 1 (.slice p [s].length c) [s].length ([s].map Value.string) → ∃ g, p = some ⟨g, 0, none⟩ ∧ V.cell? ⟨g, 0, none⟩ = some (.string s)) := fun V p c b ho => by
    obtain ⟨g, c', e1⟩ := own_somP ho (by simp)
    injection e1 with e1
    subst e1
    refine ⟨g, rfl, ?_⟩
    rw [ho.cellAt 0 (by simp)]
    rfl
  clear hN h6 h7 hd hx hbl
  go_enter Tryz.func19, Tryz.ntmps19
  go_wp2_with (go_at_call 42; refine (HNm.out _).mono ?_; rintro e w2 ⟨p2, c2, rfl, ho2, hB2⟩; obtain ⟨g2, rfl, hs2⟩ := HZ.out _ _ _ _ ho2; have HB2 := hide' (bstep HB0.out hB2 HB0.out.size); clear ho2 hB2)
  go_ret
  exact ⟨rfl, HB2.out⟩
set_option maxRecDepth 100000 in
set_option maxHeartbeats 2000000 in
/-- gazetteerref11.number: the first -/
theorem number0_any (d : ByteArray) (w : World) (hd : 2 ≤ d.size) : Calls Tryz.prog 27 #[.string d, .int .i64 0] w fun e w' => e = .returned (.int .i64 (vN (d.extract 0 2) 2 : Nat)) ∧ w' = w := by
  have HV := hide' (fun V => refValue4_any (d.extract 0 2) V (by rw [ByteArray.size_extract]; omega))
  rw [show (d.extract 0 2).size = 2 by rw [ByteArray.size_extract]; omega] at HV
  have q2 : (2 : Int) ≤ (d.size : Int) := by omega
  go_enter Tryz.func27, Tryz.ntmps27
  go_wp2_with (go_at_call 47; refine (HV.out _).mono ?_; rintro e w1 ⟨rfl, rfl⟩)
  go_ret
  exact ⟨rfl, rfl⟩
set_option maxRecDepth 100000 in
set_option maxHeartbeats 2000000 in
/-- gazetteerref11.number: the second -/
theorem number1_any (d : ByteArray) (w : World) (hd : 4 ≤ d.size) : Calls Tryz.prog 27 #[.string d, .int .i64 1] w fun e w' => e = .returned (.int .i64 (vN (d.extract 2 4) 2 : Nat)) ∧ w' = w := by
  have HV := hide' (fun V => refValue4_any (d.extract 2 4) V (by rw [ByteArray.size_extract]; omega))
  rw [show (d.extract 2 4).size = 2 by rw [ByteArray.size_extract]; omega] at HV
  have q2 : (2 : Int) ≤ (d.size : Int) := by omega
  have q4 : (4 : Int) ≤ (d.size : Int) := by omega
  go_enter Tryz.func27, Tryz.ntmps27
  go_wp2_with (go_at_call 47; refine (HV.out _).mono ?_; rintro e w1 ⟨rfl, rfl⟩)
  go_ret
  exact ⟨rfl, rfl⟩
/-- a set of a type -/
def setT (L : List Rn) (t : Int) : Bool := setOK L && (((L.head?.map (·.t)).getD 0) == t)
set_option maxRecDepth 100000 in
set_option maxHeartbeats 2000000 in
/-- gazetteerref11.isSet -/
theorem isSet11_any (L : List Rn) (p : Option Addr) (cap : Nat) (t : Int) (w : World) (hL : L.length ≤ 1048576) (hat : RsAt w p L) (hz : ∀ r ∈ L, r.o.size ≤ 1048576 ∧ r.d.size ≤ 9223372036854775807) :
    Calls Tryz.prog 26 #[.slice p L.length cap, .int .i64 t] w fun r w' => r = .returned (.bool (setT L t)) ∧ Below w.heap.size w w' := by
  have HI := hide' (refIsSet_any L p cap w hL hat hz)
  unfold setT
  cases hs : setOK L with
  | false =>
    rw [hs] at HI
    rw [Bool.false_and]
    clear hat hz hs
    go_enter Tryz.func26, Tryz.ntmps26
    go_wp2_with (go_at_call 46; refine HI.out.mono ?_; rintro e w1 ⟨rfl, hB1⟩; have HB1 := hide' hB1; clear hB1)
    go_ret
    exact ⟨rfl, HB1.out⟩
  | true =>
    rw [hs] at HI
    rw [Bool.true_and]
    have h0 : 0 < L.length := ((set_good L).1 hs).1
    have hh : (L.head?.map (·.t)).getD 0 = L[0].t := by
      cases L with
      | nil => simp at h0
      | cons x l => rfl
    rw [hh]
    obtain ⟨g, off, rfl, hg, f0, f1, -, -, -⟩ := hat 0 h0
    rw [Nat.zero_mul, Nat.add_zero] at f1
    generalize L[0].t = t0 at *
    have hli : (0 : Int) < (L.length : Int) := by omega
    have HF : Hid (∀ V, Below w.heap.size w V → V.cell? ⟨g, off + 1, none⟩ = some (.int .i64 t0)) := fun V hV => (hV.cell (p := ⟨g, off + 1, none⟩) hg).trans f1
    clear hat hz hs f0 hh h0
    go_enter Tryz.func26, Tryz.ntmps26
    go_wp2_with (go_at_call 46; refine HI.out.mono ?_; rintro e w1 ⟨rfl, hB1⟩; have HB1 := hide' hB1; have f2 := HF.out w1 hB1; clear hB1)
    go_ret
    exact ⟨rfl, HB1.out⟩
end Go.Proofs.YtelboefeomnjaaaGreat

/-
  Proofs: the service of an NAPTR: policy.serviceOf, what Rewrites leaves out. (The verifier's own text.)
-/
namespace Go.Proofs.YtelboefeomnjaaaGreat
set_option linter.unusedVariables false
set_option linter.unusedSimpArgs false
open Go.RowKit Go.Shelf Go.Maps Go.Proofs.YtelboefeomnjaaaGreat.Nm Go.Proofs.YtelboefeomnjaaaGreat.Zs

def nr0 (d : ByteArray) : ByteArray := d.extract 4 d.size
def nr1 (d : ByteArray) : ByteArray := (nr0 d).extract (1 + bt (nr0 d) 0) (nr0 d).size
/-- the service of an NAPTR -/
def svcB (d : ByteArray) : ByteArray := (nr1 d).extract 1 (1 + bt (nr1 d) 0)
structure NapD (d : ByteArray) : Prop where
  d4 : 4 ≤ d.size
  d6 : d.size ≤ 65535
  r0 : 0 < (nr0 d).size ∧ 1 + bt (nr0 d) 0 ≤ (nr0 d).size
  r1 : 0 < (nr1 d).size ∧ 1 + bt (nr1 d) 0 ≤ (nr1 d).size
  ps : ∃ q0 q1 q2 q4 q5, partsOf [.num 2, .num 2, .text, .text, .text, .dom] d = some [q0, q1, q2, (.text, (nr1 d).extract 0 (1 + bt (nr1 d) 0)), q4, q5]
theorem cnt_some {d : ByteArray} {n : Nat} (h : cntS d = some n) : 0 < d.size ∧ 1 + bt d 0 = n ∧ n ≤ d.size := by
  unfold cntS at h
  split at h
  · cases h
  · injection h with h
    omega
theorem size_text (x : ByteArray) : kindSize .text x = cntS x := rfl
theorem nap_parts {d : ByteArray} (h : errD 35 d = 0) : NapD d := by
  obtain ⟨ps, hp⟩ := errD_zero h
  have hk : kindsOf 35 = some [.num 2, .num 2, .text, .text, .text, .dom] := by decide
  unfold partsD at hp
  rw [hk] at hp
  simp only at hp
  split at hp
  · cases hp
  · rename_i h6
    have hps := hp
    obtain ⟨n1, q1, a1, p1, rfl⟩ := parts_cons hp
    obtain ⟨rfl, b1⟩ := fix_le (n := 2) (show fixS 2 d = some n1 from a1)
    obtain ⟨n2, q2, a2, p2, rfl⟩ := parts_cons p1
    obtain ⟨rfl, b2⟩ := fix_le (n := 2) (show fixS 2 (d.extract 2 d.size) = some n2 from a2)
    rw [ByteArray.size_extract] at b2
    rw [show (d.extract 2 d.size).extract 2 (d.extract 2 d.size).size = nr0 d from cut_cut d 2 2 (by omega)] at p2
    obtain ⟨n3, q3, a3, p3, rfl⟩ := parts_cons p2
    obtain ⟨c1, c2, c3⟩ := cnt_some ((size_text _).symm.trans a3)
    subst c2
    rw [show (nr0 d).extract (1 + bt (nr0 d) 0) (nr0 d).size = nr1 d from rfl] at p3
    obtain ⟨n4, q4, a4, p4, rfl⟩ := parts_cons p3
    obtain ⟨e1, e2, e3⟩ := cnt_some ((size_text _).symm.trans a4)
    subst e2
    obtain ⟨n5, q5, a5, p5, rfl⟩ := parts_cons p4
    obtain ⟨n6, q6, a6, p6, rfl⟩ := parts_cons p5
    obtain ⟨h0, rfl⟩ := parts_nil p6
    exact ⟨by omega, by omega, ⟨c1, c3⟩, ⟨e1, e3⟩, _, _, _, _, _, hps⟩
set_option maxRecDepth 100000 in
set_option maxHeartbeats 2000000 in
/-- policy.serviceOf -/
theorem serviceOf_any (o d : ByteArray) (t c l : Int) (w : World) (hd : NapD d) :
    Calls Tryz.prog 31 #[.agg #[.string o, .int .i64 t, .int .i64 c, .int .i64 l, .string d]] w fun e w' => e = .returned (.string (lowB (svcB d))) ∧ Below w.heap.size w w' := by
  have hx : Bx (w.alloc (.cells #[.string o, .int .i64 t, .int .i64 c, .int .i64 l, .string d] 42)) w.heap.size #[.string o, .int .i64 t, .int .i64 c, .int .i64 l, .string d] 42 := World.alloc_heap_new w _
  have hbl : Below w.heap.size w (w.alloc (.cells #[.string o, .int .i64 t, .int .i64 c, .int .i64 l, .string d] 42)) := (Below.refl _ w).alloc (Nat.le_refl _) _
  obtain ⟨wa, hwa⟩ : ∃ wa, w.alloc (.cells #[.string o, .int .i64 t, .int .i64 c, .int .i64 l, .string d] 42) = wa := ⟨_, rfl⟩
  rw [hwa] at hx hbl
  have v4 : wa.cell? ⟨w.heap.size, 4, none⟩ = some (.string d) := hx.cell rfl
  have HB0 := hide' hbl
  have h4 := hd.d4
  have h6 := hd.d6
  have h0 := hd.r0
  have h1 := hd.r1
  have hs0 : (nr0 d).size ≤ d.size := by unfold nr0; rw [ByteArray.size_extract]; omega
  have hs1 : (nr1 d).size ≤ (nr0 d).size := by unfold nr1; rw [ByteArray.size_extract]; omega
  have hsv : svcB d = (nr1 d).extract 1 (1 + bt (nr1 d) 0) := rfl
  have hn1 : nr1 d = (nr0 d).extract (1 + bt (nr0 d) 0) (nr0 d).size := rfl
  have hn0 : nr0 d = d.extract 4 d.size := rfl
  have HSm := hide' (fun V => small_any (svcB d) V (by rw [hsv, ByteArray.size_extract]; omega))
  rw [hsv] at HSm ⊢
  obtain ⟨y, hy, HY, hyl⟩ := bt_wrap (s := nr1 d) (i := 0) h1.1
  obtain ⟨x, hx0, HX, hxl⟩ := bt_wrap (s := nr0 d) (i := 0) h0.1
  rw [HY] at HSm h1 ⊢
  rw [HX] at hn1 h0
  clear HY HX hsv
  generalize nr1 d = r1 at *
  generalize nr0 d = r0 at *
  have q1 : (1 : Int) ≤ 1 + (y : Int) := by omega
  have q2 : 1 + (y : Int) ≤ (r1.size : Int) := by omega
  have q3 : 1 + (x : Int) ≤ (r0.size : Int) := by omega
  have q4 : (4 : Int) ≤ (d.size : Int) := by omega
  have q5 : IntKind.i64.wrap (1 + (y : Int)) = 1 + (y : Int) := by rw [IntKind.wrap_i64]; omega
  have q6 : IntKind.i64.wrap (1 + (x : Int)) = 1 + (x : Int) := by rw [IntKind.wrap_i64]; omega
  have hn0' := hn0.symm
  have hn1' := hn1.symm
  clear hn0 hn1 hx hbl
  go_enter Tryz.func31, Tryz.ntmps31
  go_wp2_with (go_at_call 28; (with_reducible refine (HSm.out _).mono ?_); rintro e w2 ⟨rfl, hB2⟩; have HB2 := hide' (bstep HB0.out hB2 HB0.out.size); clear hB2)
  go_ret
  exact ⟨rfl, HB2.out⟩
/-- which entries Rewrites leaves out -/
def outE (sv : ByteArray) (e : Et) : Bool := !((lowB (svcB e.r.d)).toList == sv.toList)
set_option maxRecDepth 100000 in
set_option maxHeartbeats 2000000 in
/-- policy.Rewrites's function -/
theorem rewF_any (e : Et) (sv : ByteArray) (b : Nat) (w : World) (hd : NapD e.r.d) (hb : Bx w b #[.string sv] 9) :
    Calls Tryz.prog 30 #[etV e, .pointer (some ⟨b, 0, none⟩)] w fun r w' => r = .returned (.bool (outE sv e)) ∧ Below w.heap.size w w' := by
  obtain ⟨ef, es, eo, et, ec, el, ed⟩ := e
  unfold etV outE
  simp only at hd ⊢
  have hx : Bx (w.alloc (.cells #[.int .i64 ef, .int .i64 es, .string eo, .int .i64 et, .int .i64 ec, .int .i64 el, .string ed] 50)) w.heap.size #[.int .i64 ef, .int .i64 es, .string eo, .int .i64 et, .int .i64 ec, .int .i64 el, .string ed] 50 := World.alloc_heap_new w _
  have hbl : Below w.heap.size w (w.alloc (.cells #[.int .i64 ef, .int .i64 es, .string eo, .int .i64 et, .int .i64 ec, .int .i64 el, .string ed] 50)) := (Below.refl _ w).alloc (Nat.le_refl _) _
  obtain ⟨wa, hwa⟩ : ∃ wa, w.alloc (.cells #[.int .i64 ef, .int .i64 es, .string eo, .int .i64 et, .int .i64 ec, .int .i64 el, .string ed] 50) = wa := ⟨_, rfl⟩
  rw [hwa] at hx hbl
  have HB0 := hide' hbl
  have HSv := hide' (fun V => serviceOf_any eo ed et ec el V hd)
  obtain ⟨z, hz⟩ : ∃ z, lowB (svcB ed) = z := ⟨_, rfl⟩
  rw [hz] at HSv ⊢
  have HB1 := hide' (hb.below hbl hb.lt)
  have HX := hide' hx
  have HQ : Hid (∀ V, Below wa.heap.size wa V → V.cell? ⟨w.heap.size, 2, none⟩ = some (.string eo) ∧ V.cell? ⟨w.heap.size, 3, none⟩ = some (.int .i64 et) ∧ V.cell? ⟨w.heap.size, 4, none⟩ = some (.int .i64 ec) ∧ V.cell? ⟨w.heap.size, 5, none⟩ = some (.int .i64 el) ∧ V.cell? ⟨w.heap.size, 6, none⟩ = some (.string ed) ∧ V.cell? ⟨b, 0, none⟩ = some (.string sv)) := fun V hV => ⟨(HX.out.below hV HX.out.lt).cell rfl, (HX.out.below hV HX.out.lt).cell rfl, (HX.out.below hV HX.out.lt).cell rfl, (HX.out.below hV HX.out.lt).cell rfl, (HX.out.below hV HX.out.lt).cell rfl, (HB1.out.below hV HB1.out.lt).cell rfl⟩
  have hBr : Below wa.heap.size wa wa := Below.refl _ _
  have hBd : Below wa.heap.size wa wa.drew := (Below.refl _ wa).drew
  have v2 : wa.cell? ⟨w.heap.size, 2, none⟩ = some (.string eo) := hx.cell rfl
  have v3 : wa.cell? ⟨w.heap.size, 3, none⟩ = some (.int .i64 et) := hx.cell rfl
  have v4 : wa.cell? ⟨w.heap.size, 4, none⟩ = some (.int .i64 ec) := hx.cell rfl
  have v5 : wa.cell? ⟨w.heap.size, 5, none⟩ = some (.int .i64 el) := hx.cell rfl
  have v6 : wa.cell? ⟨w.heap.size, 6, none⟩ = some (.string ed) := hx.cell rfl
  have vb : wa.cell? ⟨b, 0, none⟩ = some (.string sv) := HB1.out.cell rfl
  clear hx hbl hb hd hz
  go_enter Tryz.func30, Tryz.ntmps30
  go_wp2_with fail
  go_region_held3 (fun V => V.cell? ⟨w.heap.size, 2, none⟩ = some (.string eo) ∧ V.cell? ⟨w.heap.size, 3, none⟩ = some (.int .i64 et) ∧ V.cell? ⟨w.heap.size, 4, none⟩ = some (.int .i64 ec) ∧ V.cell? ⟨w.heap.size, 5, none⟩ = some (.int .i64 el) ∧ V.cell? ⟨w.heap.size, 6, none⟩ = some (.string ed) ∧ V.cell? ⟨b, 0, none⟩ = some (.string sv)) (first | go_keep | (with_reducible exact HQ.out _ hB) | (obtain ⟨h0, h1, h2, h3, h4, h5⟩ := HQ.out _ hB; first | exact ⟨h0, h1, h2, h3, h4, h5⟩ | assumption) | (obtain ⟨h0, h1, h2, h3, h4, h5⟩ := HQ.out _ hB.drew; first | exact ⟨h0, h1, h2, h3, h4, h5⟩ | assumption)) (first | (go_at_call 31; (with_reducible refine (HSv.out _).mono ?_); rintro e w2 ⟨rfl, hB2⟩; (with_reducible (first | have hB := bstep hBr hB2 hBr.size | have hB := bstep hBd hB2 hBd.size)); clear hB2))
  all_goals
    go_wp2_with fail
    go_ret
    exact ⟨rfl, bstep HB0.out hB HB0.out.size⟩
end Go.Proofs.YtelboefeomnjaaaGreat

/-
  Proofs: slices.IndexFunc and slices.DeleteFunc of entries, with Rewrites's function. (The verifier's own text.)
-/
namespace Go.Proofs.YtelboefeomnjaaaGreat
set_option linter.unusedVariables false
set_option linter.unusedSimpArgs false
open Go.RowKit Go.Shelf Go.Maps Go.Proofs.YtelboefeomnjaaaGreat.Nm Go.Proofs.YtelboefeomnjaaaGreat.Zs

def rwF (b : Nat) : Value := .func (Fn.func 30) #[] #[.pointer (some ⟨b, 0, none⟩)]
def kpE (sv : ByteArray) (B : List Et) : List Et := B.filter fun e => !outE sv e
theorem kpE_le (sv : ByteArray) (B : List Et) : (kpE sv B).length ≤ B.length := List.length_filter_le _ _
theorem kpE_all {sv : ByteArray} {B : List Et} (h : ∀ x ∈ B, outE sv x = false) : kpE sv B = B := List.filter_eq_self.2 fun x hx => by rw [h x hx]; rfl
theorem kpE_app (sv : ByteArray) (A B : List Et) : kpE sv (A ++ B) = kpE sv A ++ kpE sv B := List.filter_append ..
theorem run_fromN (g len cap i : Nat) (hi : i ≤ len) (hc : len ≤ cap) (hne : i < cap) (W : World) : (Instr.slice 44 (.slice (some ⟨g, 0, none⟩) len cap) (some (.int .i64 (i : Int))) none none).run Tryz.prog W = .ok (.slice (some ⟨g, i * 7, none⟩) (len - i) (cap - i)) W := by
  have ht' : Tryz.prog.underlying 44 = some (.slice (Tryz.prog.elem 44)) := by simp [Program.elem, Tryz.underlying44]
  have he' : Tryz.prog.elem 44 = 50 := by simp [Program.elem, Tryz.underlying44]
  rw [run_slice_l W _ _ _ _ ht' .i64 _ (by omega) (by omega), he', Tryz.sizeOf50]
  have e1 : ¬ cap = i := by omega
  rcases Nat.eq_zero_or_pos i with rfl | hp
  · simp [Result.andThen, sliced, Addr.add]
  · have e2 : ¬ i * 7 = 0 := by omega
    simp [Result.andThen, sliced, Addr.add, e1]
    omega
theorem run_uptoN (g len cap i : Nat) (hc : i ≤ cap) (W : World) : (Instr.slice 44 (.slice (some ⟨g, 0, none⟩) len cap) none (some (.int .i64 (i : Int))) none).run Tryz.prog W = .ok (.slice (some ⟨g, 0, none⟩) i cap) W := by
  have ht' : Tryz.prog.underlying 44 = some (.slice (Tryz.prog.elem 44)) := by simp [Program.elem, Tryz.underlying44]
  have he' : Tryz.prog.elem 44 = 50 := by simp [Program.elem, Tryz.underlying44]
  rw [run_slice_h W _ _ _ _ ht' .i64 _ (by omega) (by omega), he', Tryz.sizeOf50]
  simp [Result.andThen, sliced, Addr.add]
theorem zero_cellsN (n : Nat) : (Builtin.zeroCells (etV zE).cells n).toList = rowV et7 (List.replicate n zE) := by
  have hz : (etV zE).cells = (et7 zE).toArray := rfl
  rw [hz]
  apply List.ext_getElem?
  intro i
  by_cases hi : i < n * 7
  · have hk : i / 7 < (List.replicate n zE).length := by rw [List.length_replicate]; omega
    have h0 := rowV_get et7_len (List.replicate n zE) (i / 7) (i % 7) hk (Nat.mod_lt _ (by omega))
    have hg : (List.replicate n zE)[i / 7] = zE := by simp
    rw [hg, show i / 7 * 7 + i % 7 = i by omega] at h0
    have hL : (Builtin.zeroCells (et7 zE).toArray n).toList[i]? = some ((et7 zE).toArray[i % 7]!) := by
      unfold Builtin.zeroCells
      rw [show (et7 zE).toArray.size = 7 from rfl]
      simp [hi]
    rw [hL, h0]
    have hm : i % 7 < 7 := Nat.mod_lt _ (by omega)
    generalize i % 7 = m at hm
    rcases m with _ | _ | _ | _ | _ | _ | _ | m
    · rfl
    · rfl
    · rfl
    · rfl
    · rfl
    · rfl
    · rfl
    · omega
  · rw [List.getElem?_eq_none, List.getElem?_eq_none]
    · rw [rowV_len et7_len, List.length_replicate]; omega
    · unfold Builtin.zeroCells
      rw [show (et7 zE).toArray.size = 7 from rfl]
      simp
      omega
theorem run_clearN (w : World) (g : Nat) (A B : List Et) (c ty : Nat) (hB : 0 < B.length) (h : Eb w g (A ++ B)) :
    ∃ w2, (Builtin.clear_ #[44] ty #[.slice (some ⟨g, A.length * 7, none⟩) B.length c]).run Tryz.prog w = .ok (.tuple #[]) w2 ∧ Eb w2 g (A ++ List.replicate B.length zE) ∧ w.grownBy w2 (some g) := by
  refine ⟨w.setCells g (A.length * 7) (rowV et7 (List.replicate B.length zE)), ?_, ?_, grown_setCells g _ _ w⟩
  · have hlen : (rowV et7 (List.replicate B.length zE)).length = B.length * 7 := by rw [rowV_len et7_len, List.length_replicate]
    have hst := run_storeCells_cells (P := Tryz.prog) g (A.length * 7) (rowV et7 (List.replicate B.length zE)) 0 w (fun j hj => by
      rw [hlen] at hj
      exact h.some (by rw [List.length_append, Nat.add_mul]; omega)) (fun j hj => h.free _) (row_oneE _)
    simp only [Nat.add_zero] at hst
    have hz := zero_cellsN B.length
    obtain ⟨m, hm⟩ : ∃ m, B.length = m + 1 := ⟨B.length - 1, by omega⟩
    rw [hm] at hst hz ⊢
    have hz' : (Builtin.zeroCells (Value.agg #[.int .i64 0, .int .i64 0, .string ⟨#[]⟩, .int .i64 0, .int .i64 0, .int .i64 0, .string ⟨#[]⟩]).cells (m + 1)).toList = rowV et7 (List.replicate (m + 1) zE) := hz
    simp only [Builtin.clear_, run_underlying Tryz.underlying44]
    simp [zero_runE, hz', hst]
  · have hl : (rowV et7 A).length = A.length * 7 := rowV_len et7_len A
    unfold Eb at h ⊢
    rw [rowV_app] at h ⊢
    have := bx_setCells (rowV et7 (List.replicate B.length zE)) (rowV et7 A) (rowV et7 B) [] (by rw [rowV_len et7_len, rowV_len et7_len, List.length_replicate]) w (by rw [List.append_nil]; exact h)
    rw [hl, List.append_nil] at this
    exact this
set_option maxRecDepth 100000 in
set_option maxHeartbeats 1000000 in
/-- slices.IndexFunc with Rewrites's function -/
theorem indexN_any (sv : ByteArray) (B : List Et) (g b cap : Nat) (w : World) (hL : B.length ≤ 1048576) (h : Eb w g B) (hb : Bx w b #[.string sv] 9) (hd : ∀ e ∈ B, NapD e.r.d) :
    Calls Tryz.prog 48 #[.slice (some ⟨g, 0, none⟩) B.length cap, rwF b] w fun r w' => ((r = .returned (.int .i64 (-1)) ∧ ∀ x ∈ B, outE sv x = false) ∨ ∃ i : Nat, ∃ hi : i < B.length, r = .returned (.int .i64 (i : Int)) ∧ outE sv B[i] = true ∧ ∀ x ∈ B.take i, outE sv x = false) ∧ Below w.heap.size w w' := by
  have HA := hide' h
  have HC := hide' (fun (W : World) (hW : Below w.heap.size w W) (e : Et) (he : e ∈ B) => rewF_any e sv b W (hd e he) (hb.below hW hb.lt))
  have HE := hide' (fun (W : World) (hW : Below w.heap.size w W) => h.below hW h.lt)
  clear h hb hd
  unfold rwF
  go_enter Tryz.func48, Tryz.ntmps48
  go_wp2_with fail
  go_loopw [8] (fun i wr => ∃ k : Nat, i = .int .i64 (k : Int) ∧ k ≤ B.length ∧ Hid (∀ x ∈ B.take k, outE sv x = false) ∧ Below w.heap.size w wr) (fun i _ => B.length - (intOf i).toNat)
  case atStart => exact ⟨0, rfl, Nat.zero_le _, (fun x h => by simp at h), Below.refl _ _⟩
  case round =>
    obtain ⟨k, rfl, hk, HN, hBr⟩ := hrel
    have HBr := hide' hBr
    by_cases hlt : k < B.length
    · obtain ⟨e0, e1, e2, e3, e4, e5, e6⟩ := (HE.out wr hBr).cells hlt
      have HTk : Hid (B.take (k + 1) = B.take k ++ [B[k]]) := List.take_succ_eq_append_getElem hlt
      have HF := hide' (HC.out wr hBr B[k] (List.getElem_mem hlt))
      obtain ⟨x, hx⟩ : ∃ x, B[k] = x := ⟨_, rfl⟩
      have HX := hide' hx
      rw [hx] at e0 e1 e2 e3 e4 e5 e6 HTk HF
      clear hx hBr
      cases hp : outE sv x with
      | true =>
        have HP := hide' hp
        rw [hp] at HF
        clear hp
        obtain ⟨xf, xs, xo, xt, xc, xl, xd⟩ := x
        unfold etV at HF
        simp only at e0 e1 e2 e3 e4 e5 e6 HF
        go_wp2_with (go_at_call 30; (with_reducible refine HF.out.mono ?_); rintro r w2 ⟨rfl, hB2⟩; have HB2 := hide' hB2; clear hB2)
        go_ret
        refine ⟨.inr ⟨k, hlt, rfl, ?_, HN.out⟩, bstep HBr.out HB2.out HBr.out.size⟩
        rw [HX.out]; exact HP.out
      | false =>
        have HP := hide' hp
        rw [hp] at HF
        clear hp
        obtain ⟨xf, xs, xo, xt, xc, xl, xd⟩ := x
        unfold etV at HF
        simp only at e0 e1 e2 e3 e4 e5 e6 HF
        go_wp2_with (go_at_call 30; (with_reducible refine HF.out.mono ?_); rintro r w2 ⟨rfl, hB2⟩; have HB2 := hide' hB2; clear hB2)
        go_roundw
        case rel =>
          refine ⟨k + 1, by go_num, by omega, ?_, bstep HBr.out HB2.out HBr.out.size⟩
          intro y hy
          rw [HTk.out] at hy
          rcases List.mem_append.1 hy with h | h
          · exact HN.out y h
          · rw [List.mem_singleton.1 h]; exact HP.out
        case measure => simp [intOf]; omega
    · have hkk : k = B.length := by omega
      have HKK := hide' hkk
      clear hkk
      go_wp2_with fail
      go_ret
      refine ⟨.inl ⟨rfl, ?_⟩, HBr.out⟩
      intro x hx
      have := HN.out x
      rw [HKK.out, List.take_length] at this
      exact this hx
/-- where DeleteFunc stands -/
structure De (w wr : World) (g b : Nat) (sv : ByteArray) (B : List Et) (i j : Nat) (F : List Et) : Prop where
  eb : Eb wr g F
  bx : Bx wr b #[.string sv] 9
  ne : b ≠ g
  len : F.length = B.length
  took : F.take i = kpE sv (B.take j)
  drop : F.drop j = B.drop j
  gr : w.grownBy wr (some g)
section
variable {w wr w2 : World} {g b i j : Nat} {sv : ByteArray} {B F : List Et}
theorem De.skip (h : De w wr g b sv B i j F) (hj : j < B.length) (hp : outE sv B[j] = true) (hb : Below wr.heap.size wr w2) : De w w2 g b sv B i (j + 1) F := by
  refine ⟨h.eb.below hb h.eb.lt, h.bx.below hb h.bx.lt, h.ne, h.len, ?_, ?_, grown_trans h.gr (grown_below hb _)⟩
  · rw [h.took, List.take_succ_eq_append_getElem hj, kpE_app]
    have : kpE sv [B[j]] = [] := by simp [kpE, hp]
    rw [this, List.append_nil]
  · have := congrArg (List.drop 1) h.drop
    simpa [List.drop_drop, Nat.add_comm] using this
theorem De.keep (h : De w wr g b sv B i j F) (hj : j < B.length) (hi : i < j) (hp : outE sv B[j] = false) (hb : Below wr.heap.size wr w2) : De w (set7 w2 g (i * 7) B[j]) g b sv B (i + 1) (j + 1) (F.set i B[j]) := by
  have hl := h.len
  have h1 : Eb w2 g F := h.eb.below hb h.eb.lt
  have h2 := h1.put (j := i) (by omega) B[j]
  refine ⟨h2, (h.bx.below hb h.bx.lt).grown (grown_set7 w2 g _ _) (fun e => h.ne (Option.some.inj e).symm), h.ne, by simpa using hl, ?_, ?_, grown_trans h.gr (grown_trans (grown_below hb _) (grown_set7 w2 g _ _))⟩
  · rw [List.take_succ_eq_append_getElem (by simp; omega), List.take_set_of_le (Nat.le_refl _), h.took, List.take_succ_eq_append_getElem hj, kpE_app]
    have : kpE sv [B[j]] = [B[j]] := by simp [kpE, hp]
    rw [this]
    simp
  · rw [List.drop_set_of_lt (by omega)]
    have := congrArg (List.drop 1) h.drop
    simpa [List.drop_drop, Nat.add_comm] using this
theorem De.at (h : De w wr g b sv B i j F) (hj : j < B.length) : C7 wr g (j * 7) B[j] := by
  have hl := h.len
  have hF : F[j] = B[j] := by
    have := congrArg (fun l => l[0]?) h.drop
    simp only [List.getElem?_drop, Nat.add_zero] at this
    rw [List.getElem?_eq_getElem (by omega), List.getElem?_eq_getElem hj] at this
    exact Option.some.inj this
  have := h.eb.cells (k := j) (by omega)
  rw [hF] at this
  exact this
end
theorem idxN_none {sv : ByteArray} {B : List Et} {r : Ending} (hall : ∀ x ∈ B, outE sv x = false) (h : (r = .returned (.int .i64 (-1)) ∧ ∀ x ∈ B, outE sv x = false) ∨ ∃ i : Nat, ∃ hi : i < B.length, r = .returned (.int .i64 (i : Int)) ∧ outE sv B[i] = true ∧ ∀ x ∈ B.take i, outE sv x = false) : r = .returned (.int .i64 (-1)) := by
  rcases h with h | ⟨i, hi, _, h2, _⟩
  · exact h.1
  · have := hall _ (List.getElem_mem hi)
    rw [this] at h2; cases h2
theorem idxN_some {sv : ByteArray} {B : List Et} {r : Ending} (hall : (B.all fun x => !outE sv x) = false) (h : (r = .returned (.int .i64 (-1)) ∧ ∀ x ∈ B, outE sv x = false) ∨ ∃ i : Nat, ∃ hi : i < B.length, r = .returned (.int .i64 (i : Int)) ∧ outE sv B[i] = true ∧ ∀ x ∈ B.take i, outE sv x = false) : ∃ i : Nat, ∃ hi : i < B.length, r = .returned (.int .i64 (i : Int)) ∧ outE sv B[i] = true ∧ ∀ x ∈ B.take i, outE sv x = false := by
  rcases h with h | h
  · have : (B.all fun x => !outE sv x) = true := List.all_eq_true.2 fun x hx => by rw [h.2 x hx]; rfl
    rw [this] at hall; cases hall
  · exact h
end Go.Proofs.YtelboefeomnjaaaGreat

/-
  Proofs: slices.DeleteFunc of entries, with Rewrites's function: its walk. (The verifier's own text.)
-/
namespace Go.Proofs.YtelboefeomnjaaaGreat
set_option linter.unusedVariables false
set_option linter.unusedSimpArgs false
open Go.RowKit Go.Shelf Go.Maps Go.Proofs.YtelboefeomnjaaaGreat.Nm Go.Proofs.YtelboefeomnjaaaGreat.Zs

set_option maxRecDepth 100000 in
set_option maxHeartbeats 4000000 in
/-- slices.DeleteFunc -/
theorem deleteN_any (sv : ByteArray) (B : List Et) (g b cap : Nat) (w : World) (hB : B.length ≤ 1048576) (hc : B.length ≤ cap) (h : Eb w g B) (hb : Bx w b #[.string sv] 9) (hne : b ≠ g) (hd : ∀ e ∈ B, NapD e.r.d) :
    Calls Tryz.prog 29 #[.slice (some ⟨g, 0, none⟩) B.length cap, rwF b] w fun r w' => ∃ R, r = .returned (.slice (some ⟨g, 0, none⟩) (kpE sv B).length cap) ∧ Eb w' g (kpE sv B ++ R) ∧ w.grownBy w' (some g) := by
  have HR := hide' h
  have HBx := hide' hb
  have HNe := hide' hne
  have HI := hide' (indexN_any sv B g b cap w hB h hb hd)
  have HC := hide' (fun (W : World) (hW : Bx W b #[.string sv] 9) (e : Et) (he : e ∈ B) => rewF_any e sv b W (hd e he) hW)
  clear h hb hd hne
  rcases hidx : (B.all fun x => !outE sv x) with _ | _
  · have HS := hide' hidx
    clear hidx
    have HW := hide' (fun (W : World) (i : Nat) (h1 : i ≤ B.length) (h2 : i < cap) => run_fromN g B.length cap i h1 hc h2 W)
    have HV := hide' (fun (W : World) (i : Nat) (h1 : i ≤ cap) => run_uptoN g B.length cap i h1 W)
    unfold rwF at HI ⊢
    go_enter Tryz.func29, Tryz.ntmps29
    go_wp2_with (go_at_call 48; (with_reducible refine HI.out.mono ?_); rintro r w1 ⟨hr, hB1⟩; obtain ⟨i0, hi0, rfl, hp0, hq0⟩ := (idxN_some HS.out hr); have HP0 := hide' hp0; have HQ0 := hide' hq0; have HB1 := hide' hB1; have hne : ((i0 : Int) == -1) = false := (by rw [beq_eq_false_iff_ne]; omega); clear hr hB1 hp0 hq0)
    go_loopw [5, 6] (fun iv jv wr => ∃ (i j : Nat) (F : List Et), iv = .int .i64 (i : Int) ∧ jv = .int .i64 (j : Int) ∧ i < j ∧ j ≤ B.length ∧ Hid (De w wr g b sv B i j F)) (fun _ jv _ => B.length - (intOf jv).toNat)
    case atStart =>
      refine ⟨i0, i0 + 1, B, rfl, by go_num, by omega, by omega, ⟨HR.out.below HB1.out HR.out.lt, HBx.out.below HB1.out HBx.out.lt, HNe.out, rfl, ?_, rfl, grown_below HB1.out _⟩⟩
      rw [List.take_succ_eq_append_getElem hi0, kpE_app, kpE_all HQ0.out]
      have : kpE sv [B[i0]] = [] := by simp [kpE, HP0.out]
      rw [this, List.append_nil]
    case round =>
      obtain ⟨i, j, F, rfl, rfl, hij, hj, HD⟩ := hrel
      by_cases hlt : j < B.length
      · obtain ⟨x0, x1, x2, x3, x4, x5, x6⟩ := HD.out.at hlt
        have HF := hide' (fun W hW => HC.out W hW B[j] (List.getElem_mem hlt))
        obtain ⟨x, hx⟩ : ∃ x, B[j] = x := ⟨_, rfl⟩
        have HX := hide' hx
        rw [hx] at x0 x1 x2 x3 x4 x5 x6 HF
        clear hx
        cases hp : outE sv x with
        | true =>
          have HP := hide' hp
          rw [hp] at HF
          clear hp
          obtain ⟨xf, xs, xo, xt, xc, xl, xd⟩ := x
          unfold etV at HF
          simp only at x0 x1 x2 x3 x4 x5 x6 HF
          obtain ⟨wa, hwa⟩ : ∃ wa, wr.alloc (.cells #[.int .i64 xf, .int .i64 xs, .string xo, .int .i64 xt, .int .i64 xc, .int .i64 xl, .string xd] 50) = wa := ⟨_, rfl⟩
          have HV0 : Hid (Bx wa wr.heap.size #[.int .i64 xf, .int .i64 xs, .string xo, .int .i64 xt, .int .i64 xc, .int .i64 xl, .string xd] 50) := hwa ▸ World.alloc_heap_new wr _
          have HBa : Hid (Below wr.heap.size wr wa) := hwa ▸ (Below.refl _ wr).alloc (Nat.le_refl _) _
          have HFa := hide' (HF.out wa (HD.out.bx.below HBa.out HD.out.bx.lt))
          have v0 : wa.cell? ⟨wr.heap.size, 0, none⟩ = some (.int .i64 xf) := HV0.out.cell rfl
          have v1 : wa.cell? ⟨wr.heap.size, 1, none⟩ = some (.int .i64 xs) := HV0.out.cell rfl
          have v2 : wa.cell? ⟨wr.heap.size, 2, none⟩ = some (.string xo) := HV0.out.cell rfl
          have v3 : wa.cell? ⟨wr.heap.size, 3, none⟩ = some (.int .i64 xt) := HV0.out.cell rfl
          have v4 : wa.cell? ⟨wr.heap.size, 4, none⟩ = some (.int .i64 xc) := HV0.out.cell rfl
          have v5 : wa.cell? ⟨wr.heap.size, 5, none⟩ = some (.int .i64 xl) := HV0.out.cell rfl
          have v6 : wa.cell? ⟨wr.heap.size, 6, none⟩ = some (.string xd) := HV0.out.cell rfl
          go_wp2_with (go_at_call 30; (with_reducible refine HFa.out.mono ?_); rintro r w2 ⟨rfl, hB2⟩; have HB2 := hide' (bstep HBa.out hB2 HBa.out.size); clear hB2)
          refine ⟨⟨i, j + 1, F, rfl, by go_num, by omega, by omega, HD.out.skip hlt (by rw [HX.out]; exact HP.out) HB2.out⟩, ?_⟩
          simp [intOf]; omega
        | false =>
          have HP := hide' hp
          rw [hp] at HF
          clear hp
          obtain ⟨xf, xs, xo, xt, xc, xl, xd⟩ := x
          unfold etV at HF
          simp only at x0 x1 x2 x3 x4 x5 x6 HF
          obtain ⟨wa, hwa⟩ : ∃ wa, wr.alloc (.cells #[.int .i64 xf, .int .i64 xs, .string xo, .int .i64 xt, .int .i64 xc, .int .i64 xl, .string xd] 50) = wa := ⟨_, rfl⟩
          have HV0 : Hid (Bx wa wr.heap.size #[.int .i64 xf, .int .i64 xs, .string xo, .int .i64 xt, .int .i64 xc, .int .i64 xl, .string xd] 50) := hwa ▸ World.alloc_heap_new wr _
          have HBa : Hid (Below wr.heap.size wr wa) := hwa ▸ (Below.refl _ wr).alloc (Nat.le_refl _) _
          have HFa := hide' (HF.out wa (HD.out.bx.below HBa.out HD.out.bx.lt))
          have v0 : wa.cell? ⟨wr.heap.size, 0, none⟩ = some (.int .i64 xf) := HV0.out.cell rfl
          have v1 : wa.cell? ⟨wr.heap.size, 1, none⟩ = some (.int .i64 xs) := HV0.out.cell rfl
          have v2 : wa.cell? ⟨wr.heap.size, 2, none⟩ = some (.string xo) := HV0.out.cell rfl
          have v3 : wa.cell? ⟨wr.heap.size, 3, none⟩ = some (.int .i64 xt) := HV0.out.cell rfl
          have v4 : wa.cell? ⟨wr.heap.size, 4, none⟩ = some (.int .i64 xc) := HV0.out.cell rfl
          have v5 : wa.cell? ⟨wr.heap.size, 5, none⟩ = some (.int .i64 xl) := HV0.out.cell rfl
          have v6 : wa.cell? ⟨wr.heap.size, 6, none⟩ = some (.string xd) := HV0.out.cell rfl
          go_wp2_with (go_at_call 30; (with_reducible refine HFa.out.mono ?_); rintro r w2 ⟨rfl, hB2⟩; have HV2 := hide' (HV0.out.below hB2 HV0.out.lt); have HB2 : Hid (Below wr.heap.size wr w2) := bstep HBa.out hB2 HBa.out.size; clear hB2 v0 v1 v2 v3 v4 v5 v6 x0 x1 x2 x3 x4 x5 x6; have z0 : w2.cell? ⟨wr.heap.size, 0, none⟩ = some (.int .i64 xf) := HV2.out.cell rfl; have z1 : w2.cell? ⟨wr.heap.size, 1, none⟩ = some (.int .i64 xs) := HV2.out.cell rfl; have z2 : w2.cell? ⟨wr.heap.size, 2, none⟩ = some (.string xo) := HV2.out.cell rfl; have z3 : w2.cell? ⟨wr.heap.size, 3, none⟩ = some (.int .i64 xt) := HV2.out.cell rfl; have z4 : w2.cell? ⟨wr.heap.size, 4, none⟩ = some (.int .i64 xc) := HV2.out.cell rfl; have z5 : w2.cell? ⟨wr.heap.size, 5, none⟩ = some (.int .i64 xl) := HV2.out.cell rfl; have z6 : w2.cell? ⟨wr.heap.size, 6, none⟩ = some (.string xd) := HV2.out.cell rfl; obtain ⟨y0, y1, y2, y3, y4, y5, y6⟩ := (HD.out.eb.below HB2.out HD.out.eb.lt).cells (k := i) (by rw [HD.out.len]; omega); have fr := fun k => (HD.out.eb.below HB2.out HD.out.eb.lt).free k; have hiB : i < B.length := (by omega); obtain ⟨w3, hw3⟩ : ∃ w3, set7 w2 g (i * 7) ⟨xf, xs, xo, xt, xc, xl, xd⟩ = w3 := ⟨_, rfl⟩; have HW3 := hide' hw3; unfold set7 at hw3; simp only at hw3)
          have hk := HD.out.keep hlt hij (by rw [HX.out]; exact HP.out) HB2.out
          rw [HX.out, HW3.out] at hk
          refine ⟨⟨i + 1, j + 1, F.set i ⟨xf, xs, xo, xt, xc, xl, xd⟩, by go_num, by go_num, by omega, by omega, hk⟩, ?_⟩
          simp [intOf]; omega
      · have hjj : j = B.length := by omega
        have hl := HD.out.len
        have htk : F.take i = kpE sv B := by rw [HD.out.took, hjj, List.take_length]
        have hil : i = (kpE sv B).length := by
          have := congrArg List.length htk
          rw [List.length_take] at this
          omega
        have hib : i < B.length := by omega
        have hbc : i < cap := by omega
        have hsl := HW.out wr i (by omega) hbc
        have hrb : Eb wr g (F.take i ++ F.drop i) := by rw [List.take_append_drop]; exact HD.out.eb
        have hdl : (F.drop i).length = B.length - i := by rw [List.length_drop, hl]
        have hal : (F.take i).length * 7 = i * 7 := by rw [List.length_take]; congr 1; omega
        obtain ⟨w2, hcl, hr2, hg2⟩ := run_clearN wr g (F.take i) (F.drop i) (cap - i) 0 (by omega) hrb
        rw [hal, hdl] at hcl
        have hup := HV.out w2 i (by omega)
        rw [htk] at hr2
        have HR2 := hide' hr2
        have HG2 := hide' (grown_trans HD.out.gr hg2)
        have HIL := hide' hil
        clear hr2 hg2 htk hil hl hjj hrb hdl hal
        go_wp2_with fail
        go_ret
        exact ⟨_, by rw [← HIL.out]; rfl, HR2.out, HG2.out⟩
  · have hall : ∀ x ∈ B, outE sv x = false := fun x hx => by
      have := List.all_eq_true.1 hidx x hx
      simpa using this
    have HK := hide' (kpE_all hall)
    have HAll := hide' hall
    clear hidx hall
    unfold rwF at HI ⊢
    go_enter Tryz.func29, Tryz.ntmps29
    go_wp2_with (go_at_call 48; (with_reducible refine HI.out.mono ?_); rintro r w1 ⟨hr, hB1⟩; obtain rfl : r = .returned (.int .i64 (-1)) := (idxN_none HAll.out hr); have HB1 := hide' hB1; clear hr hB1)
    go_ret
    refine ⟨[], ?_, ?_, grown_below HB1.out _⟩
    · rw [HK.out]; rfl
    · rw [HK.out, List.append_nil]; exact HR.out.below HB1.out HR.out.lt
end Go.Proofs.YtelboefeomnjaaaGreat
