import Derived.Test.YtelboefeomnjaaaGreatSgvG
import Derived.Test.YtelboefeomnjaaaGreatRc1G
import Derived.Test.YtelboefeomnjaaaGreatSd1G
import Derived.Test.YtelboefeomnjaaaGreatPo5G
import Derived.Laws.MakeOwn
import Derived.Test.YtelboefeomnjaaaGreatRn0G
/-
  Proofs: data.Target of an SRV; what entries a set has. (The verifier's own text.)
-/
namespace Go.Proofs.YtelboefeomnjaaaGreat
set_option linter.unusedVariables false
set_option linter.unusedSimpArgs false
open Go.RowKit Go.Shelf Go.Maps Go.Proofs.YtelboefeomnjaaaGreat.Nm Go.Proofs.YtelboefeomnjaaaGreat.Zs

theorem own_somP {w : World} {b n e s : Nat} {v : Value} {xs : List Value} (h : w.ownsRow b e s v n xs) (hn : 0 < n) : ∃ g c, v = .slice (some ⟨g, 0, none⟩) n c := by
  rcases h.2 with ⟨_, h0⟩ | ⟨g, cap, cur, h1, _⟩
  · omega
  · exact ⟨g, cap, h1⟩
/-- an entry of a record -/
def enO (r : Rn) : Et := ⟨(vN (r.d.extract 0 2) 2 : Nat), (vN (r.d.extract 2 4) 2 : Nat), r⟩
theorem fix_le {n k : Nat} {d : ByteArray} (h : fixS n d = some k) : k = n ∧ n ≤ d.size := by
  unfold fixS at h
  split at h
  · cases h
  · injection h with h; exact ⟨h.symm, by omega⟩
/-- how long the data of an SRV are at least -/
theorem srv_size {d : ByteArray} (h : errD 33 d = 0) : 4 ≤ d.size := by
  obtain ⟨ps, hp⟩ := errD_zero h
  have hk : kindsOf 33 = some [.num 2, .num 2, .num 2, .dom] := by decide
  unfold partsD at hp
  rw [hk] at hp
  simp only at hp
  split at hp
  · cases hp
  · unfold partsOf at hp
    cases h1 : kindSize (.num 2) d with
    | none => rw [h1] at hp; cases hp
    | some k =>
      have e1 := fix_le (n := 2) (show fixS 2 d = some k from h1)
      rw [h1] at hp
      simp only at hp
      cases h2 : partsOf [.num 2, .num 2, .dom] (d.extract k d.size) with
      | none => rw [h2] at hp; cases hp
      | some qs =>
        unfold partsOf at h2
        cases h3 : kindSize (.num 2) (d.extract k d.size) with
        | none => rw [h3] at h2; cases h2
        | some k2 =>
          have e2 := fix_le (n := 2) (show fixS 2 (d.extract k d.size) = some k2 from h3)
          rw [ByteArray.size_extract] at e2
          omega
end Go.Proofs.YtelboefeomnjaaaGreat

/-
  Proofs: policy.entriesOf. (The verifier's own text.)
-/
namespace Go.Proofs.YtelboefeomnjaaaGreat
set_option linter.unusedVariables false
set_option linter.unusedSimpArgs false
open Go.RowKit Go.Shelf Go.Maps Go.Proofs.YtelboefeomnjaaaGreat.Nm Go.Proofs.YtelboefeomnjaaaGreat.Zs

theorem made7 (n : Nat) : (madeCells (etV zE).cells (n * 7)).toList = rowV et7 (List.replicate n zE) := by
  have hz : (etV zE).cells = (et7 zE).toArray := rfl
  rw [hz]
  apply List.ext_getElem?
  intro i
  by_cases hi : i < n * 7
  · have hk : i / 7 < (List.replicate n zE).length := by rw [List.length_replicate]; omega
    have h1 := rowV_get et7_len (List.replicate n zE) (i / 7) (i % 7) hk (by omega)
    rw [show i / 7 * 7 + i % 7 = i by omega] at h1
    rw [h1]
    have hg : (List.replicate n zE)[i / 7] = zE := by simp
    rw [hg]
    unfold madeCells
    have hL : (Array.map (fun i => (et7 zE).toArray[i % (et7 zE).toArray.size]!) (Array.range (n * 7))).toList[i]? = some ((et7 zE).toArray[i % 7]!) := by
      rw [show (et7 zE).toArray.size = 7 from rfl]
      simp [hi]
    first
      | rw [hL]
      | (simp only [Array.toList_map, Array.toList_range]; rw [List.getElem?_map, List.getElem?_range hi]; simp only [Option.map_some])
    have : i % 7 = 0 ∨ i % 7 = 1 ∨ i % 7 = 2 ∨ i % 7 = 3 ∨ i % 7 = 4 ∨ i % 7 = 5 ∨ i % 7 = 6 := by omega
    rcases this with e | e | e | e | e | e | e <;> rw [e] <;> rfl
  · have hlen : (rowV et7 (List.replicate n zE)).length = n * 7 := by rw [rowV_len et7_len, List.length_replicate]
    have hl2 : (madeCells (et7 zE).toArray (n * 7)).toList.length = n * 7 := by rw [Array.length_toList, size_madeCells]
    rw [List.getElem?_eq_none (by omega), List.getElem?_eq_none (by omega)]
/-- entries so far -/
def enK (L : List Rn) (k : Nat) : List Et := (L.take k).map enO ++ List.replicate (L.length - k) zE
theorem enK_zero (L : List Rn) : enK L 0 = List.replicate L.length zE := by simp [enK]
theorem enK_all (L : List Rn) : enK L L.length = L.map enO := by simp [enK]
theorem enK_len (L : List Rn) (k : Nat) (hk : k ≤ L.length) : (enK L k).length = L.length := by simp [enK]; omega
theorem enK_succ {L : List Rn} {k : Nat} (hk : k < L.length) : (enK L k).set k (enO L[k]) = enK L (k + 1) := by
  have hl : ((L.take k).map enO).length = k := by simp; omega
  unfold enK
  rw [List.set_append_right _ _ (by omega), hl, Nat.sub_self]
  obtain ⟨m, hm⟩ : ∃ m, L.length - k = m + 1 := ⟨L.length - k - 1, by omega⟩
  rw [hm, show L.length - (k + 1) = m by omega, List.replicate_succ, List.set_cons_zero, List.take_succ_eq_append_getElem hk, List.map_append, List.append_assoc]
  rfl
/-- is it a set of SRV? -/
def srvB (L : List Rn) : Bool := (dsB L && !(((L.head?.map (·.t)).getD 0) == 46)) && (((L.head?.map (·.t)).getD 0) == 33)
theorem srv_facts {L : List Rn} (h : srvB L = true) : 0 < L.length ∧ (∀ r ∈ L, zonR r = true ∧ r.t = 33) ∧ (L.map senS).Nodup := by
  unfold srvB at h
  rw [Bool.and_eq_true, Bool.and_eq_true] at h
  obtain ⟨⟨h1, _⟩, h2⟩ := h
  cases L with
  | nil => cases h1
  | cons x l =>
    unfold dsB at h1
    rw [Bool.and_eq_true] at h1
    simp only [List.head?_cons, Option.map_some, Option.getD_some, beq_iff_eq] at h2
    refine ⟨by simp, fun r hr => ?_, of_decide_eq_true h1.2⟩
    have h3 := h1.1
    simp only [Bool.not_eq_true'] at h3
    have h4 := (List.any_eq_false.1 h3) r hr
    unfold strB at h4
    simp only [Bool.not_eq_true, Bool.or_eq_false_iff, Bool.not_eq_false', bne_eq_false_iff_eq] at h4
    exact ⟨h4.1.1, h4.1.2.trans h2⟩
set_option maxRecDepth 100000 in
set_option maxHeartbeats 4000000 in
/-- policy.entriesOf: no set of SRV -/
theorem entriesOf_no (L : List Rn) (p : Option Addr) (cap : Nat) (w : World) (hL : L.length ≤ 1048576) (hat : RsAt w p L) (hz : ∀ r ∈ L, r.o.size ≤ maxLen ∧ r.d.size ≤ 9223372036854775807) (hn : srvB L = false) :
    Calls Tryz.prog 18 #[.slice p L.length cap, .int .i64 33] w fun r w' => r = .returned (.tuple #[.slice none 0 0, .bool false]) ∧ Below w.heap.size w w' := by
  have HI := hide' (isSet_any L p cap w hL hat hz)
  unfold srvB at hn
  cases hs : (dsB L && !(((L.head?.map (·.t)).getD 0) == 46)) with
  | false =>
    rw [hs] at HI
    clear hs hn hat hz
    go_enter Tryz.func18, Tryz.ntmps18
    go_wp2_with (go_at_call 40; refine HI.out.mono ?_; rintro e w1 ⟨rfl, hB1⟩; have HB1 := hide' hB1; clear hB1)
    go_ret2
    exact ⟨rfl, HB1.out⟩
  | true =>
    rw [hs] at HI hn
    rw [Bool.true_and] at hn
    have h0 : 0 < L.length := by
      cases L with
      | nil => cases hs
      | cons x l => simp
    have hh : (L.head?.map (·.t)).getD 0 = L[0].t := by
      cases L with
      | nil => simp at h0
      | cons x l => rfl
    rw [hh] at hn
    obtain ⟨g, off, rfl, hg, f0, f1, -, -, -⟩ := hat 0 h0
    rw [Nat.zero_mul, Nat.add_zero] at f1
    generalize L[0].t = t0 at *
    have hne : (t0 != 33) = true := by unfold bne; rw [hn]; rfl
    have hli : (0 : Int) < (L.length : Int) := by omega
    have HF : Hid (∀ V, Below w.heap.size w V → V.cell? ⟨g, off + 1, none⟩ = some (.int .i64 t0)) := fun V hV => (hV.cell (p := ⟨g, off + 1, none⟩) hg).trans f1
    clear hs hat hz f0 hh hn h0
    go_enter Tryz.func18, Tryz.ntmps18
    go_wp2_with (go_at_call 40; refine HI.out.mono ?_; rintro e w1 ⟨rfl, hB1⟩; have HB1 := hide' hB1; have f2 := HF.out w1 hB1; clear hB1)
    go_ret2
    exact ⟨rfl, HB1.out⟩
end Go.Proofs.YtelboefeomnjaaaGreat

/-
  Proofs: policy.entriesOf: a set of SRV. (The verifier's own text.)
-/
namespace Go.Proofs.YtelboefeomnjaaaGreat
set_option linter.unusedVariables false
set_option linter.unusedSimpArgs false
open Go.RowKit Go.Shelf Go.Maps Go.Proofs.YtelboefeomnjaaaGreat.Nm Go.Proofs.YtelboefeomnjaaaGreat.Zs

theorem bx_drewP {W : World} {R : Nat} {cs : Array Value} {T : TypeId} (h : Bx W R cs T) : Bx W.drew R cs T := h
theorem bx_put7 {w : World} {R g : Nat} {cs : Array Value} {T : TypeId} (h : Bx w R cs T) (e : Et) (o : Nat) (hne : g ≠ R) : Bx (set7 w g o e).drew R cs T := by
  have hg := grown_set7 w g o e
  generalize set7 w g o e = W at hg ⊢
  exact bx_drewP (h.grown hg (fun q => hne (by injection q)))
theorem bx5P {W : World} {R : Nat} {T : TypeId} {a b c d e : Value} (h : Bx W R #[a, b, c, d, e] T) : W.cell? ⟨R, 0, none⟩ = some a ∧ W.cell? ⟨R, 1, none⟩ = some b ∧ W.cell? ⟨R, 2, none⟩ = some c ∧ W.cell? ⟨R, 3, none⟩ = some d ∧ W.cell? ⟨R, 4, none⟩ = some e := ⟨h.cell rfl, h.cell rfl, h.cell rfl, h.cell rfl, h.cell rfl⟩
/-- where it stands -/
def Ek (w wr : World) (g : Nat) (B : List Et) : Prop := Eb wr g B ∧ Below w.heap.size w wr ∧ w.heap.size ≤ g
theorem Ek.below {w wr w2 : World} {g : Nat} {B : List Et} (h : Ek w wr g B) (hb : Below wr.heap.size wr w2) : Ek w w2 g B := ⟨h.1.below hb h.1.lt, bstep h.2.1 hb h.2.1.size, h.2.2⟩
theorem Ek.drewP {w W : World} {g : Nat} {B : List Et} (h : Ek w W g B) : Ek w W.drew g B := ⟨h.1, h.2.1.drew, h.2.2⟩
theorem Ek.put {w wr : World} {g : Nat} {B : List Et} (h : Ek w wr g B) {j : Nat} (hj : j < B.length) (e : Et) : Ek w (set7 wr g (j * 7) e) g (B.set j e) := ⟨h.1.put hj e, h.2.1.grown (grown_set7 wr g _ e) h.2.1.size (fun q hq => by injection hq with hq; have := h.2.2; omega), h.2.2⟩
set_option maxRecDepth 100000 in
set_option maxHeartbeats 4000000 in
/-- policy.entriesOf: a set of SRV -/
theorem entriesOf_yes (L : List Rn) (p : Option Addr) (cap : Nat) (w : World) (hL : L.length ≤ 1048576) (hat : RsAt w p L) (hz : ∀ r ∈ L, r.o.size ≤ maxLen ∧ r.d.size ≤ 9223372036854775807) (hs : srvB L = true) :
    Calls Tryz.prog 18 #[.slice p L.length cap, .int .i64 33] w fun r w' => ∃ g, r = .returned (.tuple #[.slice (some ⟨g, 0, none⟩) L.length L.length, .bool true]) ∧ Ek w w' g (L.map enO) := by
  have HI := hide' (isSet_any L p cap w hL hat hz)
  obtain ⟨h0, hall, -⟩ := srv_facts hs
  have hs1 : (dsB L && !(((L.head?.map (·.t)).getD 0) == 46)) = true := by
    unfold srvB at hs
    rw [Bool.and_eq_true] at hs
    exact hs.1
  rw [hs1] at HI
  have ht0 : L[0].t = 33 := (hall _ (List.getElem_mem h0)).2
  have HA := hide' hat
  have HAll := hide' hall
  obtain ⟨g0, off, rfl, hg, f0, f1, -, -, -⟩ := hat 0 h0
  rw [Nat.zero_mul, Nat.add_zero, ht0] at f1
  have hli : (0 : Int) < (L.length : Int) := by omega
  have HF : Hid (∀ V, Below w.heap.size w V → V.cell? ⟨g0, off + 1, none⟩ = some (.int .i64 33)) := fun V hV => (hV.cell (p := ⟨g0, off + 1, none⟩) hg).trans f1
  obtain ⟨i0, hi, hz0, hz1, hz2⟩ := info_parts infoE
  have hmk : ∀ u : World, (Instr.makeSlice 44 (.int .i64 (L.length : Int)) (.int .i64 (L.length : Int))).run Tryz.prog u = .ok (.slice (some ⟨u.heap.size, 0, none⟩) L.length L.length) (u.alloc (.cells (rowV et7 (List.replicate L.length zE)).toArray 50)) := fun u => by
    have h := run_make (P := Tryz.prog) u 44 50 i0 (etV zE) Tryz.underlying44 hi hz0 .i64 .i64 (L.length : Int) (L.length : Int) (by omega) (by omega) (by rw [hz2]; omega) (by omega)
    rw [hz1, Int.toNat_natCast, ← Array.toArray_toList (xs := madeCells (etV zE).cells (L.length * 7)), made7] at h
    exact h
  have HMk := hide' hmk
  have HNw : Hid (∀ V, Below w.heap.size w V → Ek w (V.alloc (.cells (rowV et7 (List.replicate L.length zE)).toArray 50)) V.heap.size (enK L 0)) := fun V hV => ⟨by rw [enK_zero]; exact World.alloc_heap_new V _, hV.alloc hV.size _, hV.size⟩
  clear hs hs1 hat hz f0 f1 hall ht0 hi hz0 hz1 hz2 hmk
  obtain ⟨Z, hZ⟩ : ∃ Z, (rowV et7 (List.replicate L.length zE)).toArray = Z := ⟨_, rfl⟩
  rw [hZ] at HMk HNw
  clear hZ
  have hmk := HMk.out
  go_enter Tryz.func18, Tryz.ntmps18
  go_wp2_with (go_at_call 40; refine HI.out.mono ?_; rintro e w1 ⟨rfl, hB1⟩; have HB1 := hide' hB1; have f2 := HF.out w1 hB1; clear hB1)
  have HE0 := hide' (HNw.out _ HB1.out)
  clear hmk f2
  go_loopw [25] (fun kv wr => ∃ k : Nat, kv = .int .i64 (k : Int) ∧ k ≤ L.length ∧ Hid (Ek w wr w1.heap.size (enK L k))) (fun kv _ => L.length - (intOf kv).toNat)
  case atStart => exact ⟨0, rfl, Nat.zero_le _, HE0⟩
  case round =>
    clear HE0
    obtain ⟨k, rfl, hk, HE⟩ := hrel
    by_cases hlt : k < L.length
    · have pk : (k : Int) < (L.length : Int) := by omega
      have pk0 : (0 : Int) ≤ (k : Int) := by omega
      obtain ⟨g', off', hp', hg', y0, y1, y2, y3, y4⟩ := (rsAt_below7 HA.out HE.out.2.1) k hlt
      injection hp' with hp'
      injection hp' with e1 e2
      subst e1 e2
      have hok := HAll.out _ (List.getElem_mem hlt)
      have hfa := ok_facts hok.1
      have hd4 : 4 ≤ L[k].d.size := srv_size (by have := hfa.2.2.2.2.1; rw [hok.2] at this; exact this)
      have hd := hfa.2.2.2.2.2.2.2.1
      have HN : Hid (∀ V, Below wr.heap.size wr V → Ek w (set7 V w1.heap.size (k * 7) (enO L[k])) w1.heap.size (enK L (k + 1)) ∧ Eb V w1.heap.size (enK L k)) := fun V hV => by
        have h1 := HE.out.below hV
        have := h1.put (j := k) (by rw [enK_len L k hk]; exact hlt) (enO L[k])
        rw [enK_succ hlt] at this
        exact ⟨this, h1.1⟩
      have hel := enK_len L k hk
      obtain ⟨x, hx⟩ : ∃ x, L[k] = x := ⟨_, rfl⟩
      rw [hx] at y0 y1 y2 y3 y4 HN hd4 hd
      clear hx hok hfa
      obtain ⟨xo, xt, xc, xl, xd⟩ := x
      unfold enO at HN
      simp only at y0 y1 y2 y3 y4 HN hd4 hd
      have HV1 := hide' (fun V => spellValue_any (xd.extract 0 2) V (by rw [ByteArray.size_extract]; omega))
      have HV2 := hide' (fun V => spellValue_any (xd.extract 2 4) V (by rw [ByteArray.size_extract]; omega))
      rw [show (xd.extract 0 2).size = 2 by rw [ByteArray.size_extract]; omega] at HV1
      rw [show (xd.extract 2 4).size = 2 by rw [ByteArray.size_extract]; omega] at HV2
      obtain ⟨wa, hwa⟩ : ∃ wa, wr.alloc (.cells #[.string xo, .int .i64 xt, .int .i64 xc, .int .i64 xl, .string xd] 42) = wa := ⟨_, rfl⟩
      have HXa : Hid (Bx wa wr.heap.size #[.string xo, .int .i64 xt, .int .i64 xc, .int .i64 xl, .string xd] 42) := hwa ▸ World.alloc_heap_new wr _
      have HBa : Hid (Below wr.heap.size wr wa) := hwa ▸ (Below.refl _ wr).alloc (Nat.le_refl _) _
      have q4 : (4 : Int) ≤ (xd.size : Int) := by omega
      have q2 : (2 : Int) ≤ (xd.size : Int) := by omega
      have b0 : wa.cell? ⟨wr.heap.size, 0, none⟩ = some (.string xo) := HXa.out.cell rfl
      have b1 : wa.cell? ⟨wr.heap.size, 1, none⟩ = some (.int .i64 xt) := HXa.out.cell rfl
      have b2 : wa.cell? ⟨wr.heap.size, 2, none⟩ = some (.int .i64 xc) := HXa.out.cell rfl
      have b3 : wa.cell? ⟨wr.heap.size, 3, none⟩ = some (.int .i64 xl) := HXa.out.cell rfl
      have b4 : wa.cell? ⟨wr.heap.size, 4, none⟩ = some (.string xd) := HXa.out.cell rfl
      obtain ⟨hN1, hN2⟩ := HN.out wa HBa.out
      have HN1 := hide' hN1.drewP
      obtain ⟨s0, s1, s2, s3, s4, s5, s6⟩ := hN2.cells (k := k) (by rw [hel]; exact hlt)
      have fr := fun j => hN2.free j
      obtain ⟨ee, hee⟩ : ∃ ee, (enK L k)[k]'(by rw [hel]; exact hlt) = ee := ⟨_, rfl⟩
      rw [hee] at s0 s1 s2 s3 s4 s5 s6
      clear hee
      obtain ⟨ef, es, eo, et, ec, el, ed⟩ := ee
      simp only at s0 s1 s2 s3 s4 s5 s6
      unfold set7 at HN1
      simp only at HN1
      have u0 : wa.drew.cell? ⟨w1.heap.size, k * 7, none⟩ = some (.int .i64 ef) := s0
      have u1 : wa.drew.cell? ⟨w1.heap.size, k * 7 + 1, none⟩ = some (.int .i64 es) := s1
      have u2 : wa.drew.cell? ⟨w1.heap.size, k * 7 + 2, none⟩ = some (.string eo) := s2
      have u3 : wa.drew.cell? ⟨w1.heap.size, k * 7 + 3, none⟩ = some (.int .i64 et) := s3
      have u4 : wa.drew.cell? ⟨w1.heap.size, k * 7 + 4, none⟩ = some (.int .i64 ec) := s4
      have u5 : wa.drew.cell? ⟨w1.heap.size, k * 7 + 5, none⟩ = some (.int .i64 el) := s5
      have u6 : wa.drew.cell? ⟨w1.heap.size, k * 7 + 6, none⟩ = some (.string ed) := s6
      have fr2 : ∀ j, wa.drew.frozen? ⟨w1.heap.size, j, none⟩ = false := fr
      have HXs := hide' (bx_put7 HXa.out ⟨(vN (xd.extract 0 2) 2 : Nat), (vN (xd.extract 2 4) 2 : Nat), ⟨xo, xt, xc, xl, xd⟩⟩ (k * 7) (Nat.ne_of_lt HE.out.1.lt))
      unfold set7 at HXs
      simp only at HXs
      have HZs := hide' (bx5P HXs.out)
      clear hN1 hN2 HN
      go_wp2_with fail
      go_region_held3 (fun V => V.cell? ⟨wr.heap.size, 0, none⟩ = some (.string xo) ∧ V.cell? ⟨wr.heap.size, 1, none⟩ = some (.int .i64 xt) ∧ V.cell? ⟨wr.heap.size, 2, none⟩ = some (.int .i64 xc) ∧ V.cell? ⟨wr.heap.size, 3, none⟩ = some (.int .i64 xl) ∧ V.cell? ⟨wr.heap.size, 4, none⟩ = some (.string xd)) (first | with_reducible exact HZs.out | go_keep) (first | (go_at_call 41; (with_reducible refine (HV1.out _).mono ?_); rintro e w5 ⟨rfl, rfl⟩) | (go_at_call 41; (with_reducible refine (HV2.out _).mono ?_); rintro e w6 ⟨rfl, rfl⟩))
      all_goals
        go_wp2_with fail
        exact ⟨⟨k + 1, by go_num, by omega, HN1⟩, by simp [intOf]; omega⟩
    · obtain rfl : k = L.length := by omega
      rw [enK_all] at HE
      go_wp2_with fail
      go_ret2
      exact ⟨_, rfl, HE.out⟩
end Go.Proofs.YtelboefeomnjaaaGreat

/-
  Proofs: policy.entriesOf of NAPTR. (The verifier's own text; mkro1.py writes it out of Po7, Po8, Po9.)
-/
namespace Go.Proofs.YtelboefeomnjaaaGreat
set_option linter.unusedVariables false
set_option linter.unusedSimpArgs false
open Go.RowKit Go.Shelf Go.Maps Go.Proofs.YtelboefeomnjaaaGreat.Nm Go.Proofs.YtelboefeomnjaaaGreat.Zs

/-- how long the data of an NAPTR are at least -/
theorem nap_size {d : ByteArray} (h : errD 35 d = 0) : 4 ≤ d.size := by
  obtain ⟨ps, hp⟩ := errD_zero h
  have hk : kindsOf 35 = some [.num 2, .num 2, .text, .text, .text, .dom] := by decide
  unfold partsD at hp
  rw [hk] at hp
  simp only at hp
  split at hp
  · cases hp
  · unfold partsOf at hp
    cases h1 : kindSize (.num 2) d with
    | none => rw [h1] at hp; cases hp
    | some k =>
      have e1 := fix_le (n := 2) (show fixS 2 d = some k from h1)
      rw [h1] at hp
      simp only at hp
      cases h2 : partsOf [.num 2, .text, .text, .text, .dom] (d.extract k d.size) with
      | none => rw [h2] at hp; cases hp
      | some qs =>
        unfold partsOf at h2
        cases h3 : kindSize (.num 2) (d.extract k d.size) with
        | none => rw [h3] at h2; cases h2
        | some k2 =>
          have e2 := fix_le (n := 2) (show fixS 2 (d.extract k d.size) = some k2 from h3)
          rw [ByteArray.size_extract] at e2
          omega
/-- is it a set of NAPTR? -/
def napB (L : List Rn) : Bool := (dsB L && !(((L.head?.map (·.t)).getD 0) == 46)) && (((L.head?.map (·.t)).getD 0) == 35)
theorem nap_facts {L : List Rn} (h : napB L = true) : 0 < L.length ∧ (∀ r ∈ L, zonR r = true ∧ r.t = 35) ∧ (L.map senS).Nodup := by
  unfold napB at h
  rw [Bool.and_eq_true, Bool.and_eq_true] at h
  obtain ⟨⟨h1, _⟩, h2⟩ := h
  cases L with
  | nil => cases h1
  | cons x l =>
    unfold dsB at h1
    rw [Bool.and_eq_true] at h1
    simp only [List.head?_cons, Option.map_some, Option.getD_some, beq_iff_eq] at h2
    refine ⟨by simp, fun r hr => ?_, of_decide_eq_true h1.2⟩
    have h3 := h1.1
    simp only [Bool.not_eq_true'] at h3
    have h4 := (List.any_eq_false.1 h3) r hr
    unfold strB at h4
    simp only [Bool.not_eq_true, Bool.or_eq_false_iff, Bool.not_eq_false', bne_eq_false_iff_eq] at h4
    exact ⟨h4.1.1, h4.1.2.trans h2⟩
set_option maxRecDepth 100000 in
set_option maxHeartbeats 4000000 in
/-- policy.entriesOf: no set of NAPTR -/
theorem entriesN_no (L : List Rn) (p : Option Addr) (cap : Nat) (w : World) (hL : L.length ≤ 1048576) (hat : RsAt w p L) (hz : ∀ r ∈ L, r.o.size ≤ maxLen ∧ r.d.size ≤ 9223372036854775807) (hn : napB L = false) :
    Calls Tryz.prog 18 #[.slice p L.length cap, .int .i64 35] w fun r w' => r = .returned (.tuple #[.slice none 0 0, .bool false]) ∧ Below w.heap.size w w' := by
  have HI := hide' (isSet_any L p cap w hL hat hz)
  unfold napB at hn
  cases hs : (dsB L && !(((L.head?.map (·.t)).getD 0) == 46)) with
  | false =>
    rw [hs] at HI
    clear hs hn hat hz
    go_enter Tryz.func18, Tryz.ntmps18
    go_wp2_with (go_at_call 40; refine HI.out.mono ?_; rintro e w1 ⟨rfl, hB1⟩; have HB1 := hide' hB1; clear hB1)
    go_ret2
    exact ⟨rfl, HB1.out⟩
  | true =>
    rw [hs] at HI hn
    rw [Bool.true_and] at hn
    have h0 : 0 < L.length := by
      cases L with
      | nil => cases hs
      | cons x l => simp
    have hh : (L.head?.map (·.t)).getD 0 = L[0].t := by
      cases L with
      | nil => simp at h0
      | cons x l => rfl
    rw [hh] at hn
    obtain ⟨g, off, rfl, hg, f0, f1, -, -, -⟩ := hat 0 h0
    rw [Nat.zero_mul, Nat.add_zero] at f1
    generalize L[0].t = t0 at *
    have hne : (t0 != 35) = true := by unfold bne; rw [hn]; rfl
    have hli : (0 : Int) < (L.length : Int) := by omega
    have HF : Hid (∀ V, Below w.heap.size w V → V.cell? ⟨g, off + 1, none⟩ = some (.int .i64 t0)) := fun V hV => (hV.cell (p := ⟨g, off + 1, none⟩) hg).trans f1
    clear hs hat hz f0 hh hn h0
    go_enter Tryz.func18, Tryz.ntmps18
    go_wp2_with (go_at_call 40; refine HI.out.mono ?_; rintro e w1 ⟨rfl, hB1⟩; have HB1 := hide' hB1; have f2 := HF.out w1 hB1; clear hB1)
    go_ret2
    exact ⟨rfl, HB1.out⟩
set_option maxRecDepth 100000 in
set_option maxHeartbeats 4000000 in
/-- policy.entriesOf: a set of NAPTR -/
theorem entriesN_yes (L : List Rn) (p : Option Addr) (cap : Nat) (w : World) (hL : L.length ≤ 1048576) (hat : RsAt w p L) (hz : ∀ r ∈ L, r.o.size ≤ maxLen ∧ r.d.size ≤ 9223372036854775807) (hs : napB L = true) :
    Calls Tryz.prog 18 #[.slice p L.length cap, .int .i64 35] w fun r w' => ∃ g, r = .returned (.tuple #[.slice (some ⟨g, 0, none⟩) L.length L.length, .bool true]) ∧ Ek w w' g (L.map enO) := by
  have HI := hide' (isSet_any L p cap w hL hat hz)
  obtain ⟨h0, hall, -⟩ := nap_facts hs
  have hs1 : (dsB L && !(((L.head?.map (·.t)).getD 0) == 46)) = true := by
    unfold napB at hs
    rw [Bool.and_eq_true] at hs
    exact hs.1
  rw [hs1] at HI
  have ht0 : L[0].t = 35 := (hall _ (List.getElem_mem h0)).2
  have HA := hide' hat
  have HAll := hide' hall
  obtain ⟨g0, off, rfl, hg, f0, f1, -, -, -⟩ := hat 0 h0
  rw [Nat.zero_mul, Nat.add_zero, ht0] at f1
  have hli : (0 : Int) < (L.length : Int) := by omega
  have HF : Hid (∀ V, Below w.heap.size w V → V.cell? ⟨g0, off + 1, none⟩ = some (.int .i64 35)) := fun V hV => (hV.cell (p := ⟨g0, off + 1, none⟩) hg).trans f1
  obtain ⟨i0, hi, hz0, hz1, hz2⟩ := info_parts infoE
  have hmk : ∀ u : World, (Instr.makeSlice 44 (.int .i64 (L.length : Int)) (.int .i64 (L.length : Int))).run Tryz.prog u = .ok (.slice (some ⟨u.heap.size, 0, none⟩) L.length L.length) (u.alloc (.cells (rowV et7 (List.replicate L.length zE)).toArray 50)) := fun u => by
    have h := run_make (P := Tryz.prog) u 44 50 i0 (etV zE) Tryz.underlying44 hi hz0 .i64 .i64 (L.length : Int) (L.length : Int) (by omega) (by omega) (by rw [hz2]; omega) (by omega)
    rw [hz1, Int.toNat_natCast, ← Array.toArray_toList (xs := madeCells (etV zE).cells (L.length * 7)), made7] at h
    exact h
  have HMk := hide' hmk
  have HNw : Hid (∀ V, Below w.heap.size w V → Ek w (V.alloc (.cells (rowV et7 (List.replicate L.length zE)).toArray 50)) V.heap.size (enK L 0)) := fun V hV => ⟨by rw [enK_zero]; exact World.alloc_heap_new V _, hV.alloc hV.size _, hV.size⟩
  clear hs hs1 hat hz f0 f1 hall ht0 hi hz0 hz1 hz2 hmk
  obtain ⟨Z, hZ⟩ : ∃ Z, (rowV et7 (List.replicate L.length zE)).toArray = Z := ⟨_, rfl⟩
  rw [hZ] at HMk HNw
  clear hZ
  have hmk := HMk.out
  go_enter Tryz.func18, Tryz.ntmps18
  go_wp2_with (go_at_call 40; refine HI.out.mono ?_; rintro e w1 ⟨rfl, hB1⟩; have HB1 := hide' hB1; have f2 := HF.out w1 hB1; clear hB1)
  have HE0 := hide' (HNw.out _ HB1.out)
  clear hmk f2
  go_loopw [25] (fun kv wr => ∃ k : Nat, kv = .int .i64 (k : Int) ∧ k ≤ L.length ∧ Hid (Ek w wr w1.heap.size (enK L k))) (fun kv _ => L.length - (intOf kv).toNat)
  case atStart => exact ⟨0, rfl, Nat.zero_le _, HE0⟩
  case round =>
    clear HE0
    obtain ⟨k, rfl, hk, HE⟩ := hrel
    by_cases hlt : k < L.length
    · have pk : (k : Int) < (L.length : Int) := by omega
      have pk0 : (0 : Int) ≤ (k : Int) := by omega
      obtain ⟨g', off', hp', hg', y0, y1, y2, y3, y4⟩ := (rsAt_below7 HA.out HE.out.2.1) k hlt
      injection hp' with hp'
      injection hp' with e1 e2
      subst e1 e2
      have hok := HAll.out _ (List.getElem_mem hlt)
      have hfa := ok_facts hok.1
      have hd4 : 4 ≤ L[k].d.size := nap_size (by have := hfa.2.2.2.2.1; rw [hok.2] at this; exact this)
      have hd := hfa.2.2.2.2.2.2.2.1
      have HN : Hid (∀ V, Below wr.heap.size wr V → Ek w (set7 V w1.heap.size (k * 7) (enO L[k])) w1.heap.size (enK L (k + 1)) ∧ Eb V w1.heap.size (enK L k)) := fun V hV => by
        have h1 := HE.out.below hV
        have := h1.put (j := k) (by rw [enK_len L k hk]; exact hlt) (enO L[k])
        rw [enK_succ hlt] at this
        exact ⟨this, h1.1⟩
      have hel := enK_len L k hk
      obtain ⟨x, hx⟩ : ∃ x, L[k] = x := ⟨_, rfl⟩
      rw [hx] at y0 y1 y2 y3 y4 HN hd4 hd
      clear hx hok hfa
      obtain ⟨xo, xt, xc, xl, xd⟩ := x
      unfold enO at HN
      simp only at y0 y1 y2 y3 y4 HN hd4 hd
      have HV1 := hide' (fun V => spellValue_any (xd.extract 0 2) V (by rw [ByteArray.size_extract]; omega))
      have HV2 := hide' (fun V => spellValue_any (xd.extract 2 4) V (by rw [ByteArray.size_extract]; omega))
      rw [show (xd.extract 0 2).size = 2 by rw [ByteArray.size_extract]; omega] at HV1
      rw [show (xd.extract 2 4).size = 2 by rw [ByteArray.size_extract]; omega] at HV2
      obtain ⟨wa, hwa⟩ : ∃ wa, wr.alloc (.cells #[.string xo, .int .i64 xt, .int .i64 xc, .int .i64 xl, .string xd] 42) = wa := ⟨_, rfl⟩
      have HXa : Hid (Bx wa wr.heap.size #[.string xo, .int .i64 xt, .int .i64 xc, .int .i64 xl, .string xd] 42) := hwa ▸ World.alloc_heap_new wr _
      have HBa : Hid (Below wr.heap.size wr wa) := hwa ▸ (Below.refl _ wr).alloc (Nat.le_refl _) _
      have q4 : (4 : Int) ≤ (xd.size : Int) := by omega
      have q2 : (2 : Int) ≤ (xd.size : Int) := by omega
      have b0 : wa.cell? ⟨wr.heap.size, 0, none⟩ = some (.string xo) := HXa.out.cell rfl
      have b1 : wa.cell? ⟨wr.heap.size, 1, none⟩ = some (.int .i64 xt) := HXa.out.cell rfl
      have b2 : wa.cell? ⟨wr.heap.size, 2, none⟩ = some (.int .i64 xc) := HXa.out.cell rfl
      have b3 : wa.cell? ⟨wr.heap.size, 3, none⟩ = some (.int .i64 xl) := HXa.out.cell rfl
      have b4 : wa.cell? ⟨wr.heap.size, 4, none⟩ = some (.string xd) := HXa.out.cell rfl
      obtain ⟨hN1, hN2⟩ := HN.out wa HBa.out
      have HN1 := hide' hN1.drewP
      obtain ⟨s0, s1, s2, s3, s4, s5, s6⟩ := hN2.cells (k := k) (by rw [hel]; exact hlt)
      have fr := fun j => hN2.free j
      obtain ⟨ee, hee⟩ : ∃ ee, (enK L k)[k]'(by rw [hel]; exact hlt) = ee := ⟨_, rfl⟩
      rw [hee] at s0 s1 s2 s3 s4 s5 s6
      clear hee
      obtain ⟨ef, es, eo, et, ec, el, ed⟩ := ee
      simp only at s0 s1 s2 s3 s4 s5 s6
      unfold set7 at HN1
      simp only at HN1
      have u0 : wa.drew.cell? ⟨w1.heap.size, k * 7, none⟩ = some (.int .i64 ef) := s0
      have u1 : wa.drew.cell? ⟨w1.heap.size, k * 7 + 1, none⟩ = some (.int .i64 es) := s1
      have u2 : wa.drew.cell? ⟨w1.heap.size, k * 7 + 2, none⟩ = some (.string eo) := s2
      have u3 : wa.drew.cell? ⟨w1.heap.size, k * 7 + 3, none⟩ = some (.int .i64 et) := s3
      have u4 : wa.drew.cell? ⟨w1.heap.size, k * 7 + 4, none⟩ = some (.int .i64 ec) := s4
      have u5 : wa.drew.cell? ⟨w1.heap.size, k * 7 + 5, none⟩ = some (.int .i64 el) := s5
      have u6 : wa.drew.cell? ⟨w1.heap.size, k * 7 + 6, none⟩ = some (.string ed) := s6
      have fr2 : ∀ j, wa.drew.frozen? ⟨w1.heap.size, j, none⟩ = false := fr
      have HXs := hide' (bx_put7 HXa.out ⟨(vN (xd.extract 0 2) 2 : Nat), (vN (xd.extract 2 4) 2 : Nat), ⟨xo, xt, xc, xl, xd⟩⟩ (k * 7) (Nat.ne_of_lt HE.out.1.lt))
      unfold set7 at HXs
      simp only at HXs
      have HZs := hide' (bx5P HXs.out)
      clear hN1 hN2 HN
      go_wp2_with fail
      go_region_held3 (fun V => V.cell? ⟨wr.heap.size, 0, none⟩ = some (.string xo) ∧ V.cell? ⟨wr.heap.size, 1, none⟩ = some (.int .i64 xt) ∧ V.cell? ⟨wr.heap.size, 2, none⟩ = some (.int .i64 xc) ∧ V.cell? ⟨wr.heap.size, 3, none⟩ = some (.int .i64 xl) ∧ V.cell? ⟨wr.heap.size, 4, none⟩ = some (.string xd)) (first | with_reducible exact HZs.out | go_keep) (first | (go_at_call 41; (with_reducible refine (HV1.out _).mono ?_); rintro e w5 ⟨rfl, rfl⟩) | (go_at_call 41; (with_reducible refine (HV2.out _).mono ?_); rintro e w6 ⟨rfl, rfl⟩))
      all_goals
        go_wp2_with fail
        exact ⟨⟨k + 1, by go_num, by omega, HN1⟩, by simp [intOf]; omega⟩
    · obtain rfl : k = L.length := by omega
      rw [enK_all] at HE
      go_wp2_with fail
      go_ret2
      exact ⟨_, rfl, HE.out⟩
end Go.Proofs.YtelboefeomnjaaaGreat
