import Derived.Test.YtoabnpdoicbpiaaGreatZp4G
import Derived.Test.YtoabnpdoicbpiaaGreatRz1G
import Derived.Test.YtoabnpdoicbpiaaGreatSd1G
import Derived.Test.YtoabnpdoicbpiaaGreatZq1G
namespace Go.Proofs.YtoabnpdoicbpiaaGreat
set_option linter.unusedVariables false
set_option linter.unusedSimpArgs false
open Go.RowKit Go.Shelf Go.Maps Go.Proofs.YtoabnpdoicbpiaaGreat.Nm
def soaK : List Kind := [.dom, .dom, .num 4, .num 4, .num 4, .num 4, .num 4]
theorem fix4 {d : ByteArray} {n : Nat} (h : kindSize (.num 4) d = some n) : n = 4 ∧ 4 ≤ d.size := by
 change fixS 4 d = some n at h
 unfold fixS at h
 split at h
 ·cases h
 ·cases h; exact ⟨rfl, by omega⟩
theorem soa_parts {d : ByteArray} (h : errD 6 d = 0) : ∃ ps, partsOf soaK d = some ps ∧ ps.length = 7 ∧ 20 ≤ d.size ∧ d.size ≤ 65535 ∧ (∃ h2 : 2 < ps.length, ps[2].2 = d.extract (d.size - 20) (d.size - 16)) := by
 obtain ⟨ps, hp⟩ := errD_zero h
 unfold partsD at hp
 have hk : kindsOf 6 = some soaK := rfl
 rw [hk] at hp
 change (if _ then _ else _) = _ at hp
 split at hp
 ·cases hp
 rename_i hsz
 obtain ⟨n1, q1, k1, p1, rfl⟩ := zparts_cons hp
 obtain ⟨n2, q2, k2, p2, rfl⟩ := zparts_cons p1
 obtain ⟨n3, q3, k3, p3, rfl⟩ := zparts_cons p2
 obtain ⟨n4, q4, k4, p4, rfl⟩ := zparts_cons p3
 obtain ⟨n5, q5, k5, p5, rfl⟩ := zparts_cons p4
 obtain ⟨n6, q6, k6, p6, rfl⟩ := zparts_cons p5
 obtain ⟨n7, q7, k7, p7, rfl⟩ := zparts_cons p6
 obtain ⟨rfl, s3⟩ := fix4 k3
 obtain ⟨rfl, s4⟩ := fix4 k4
 obtain ⟨rfl, s5⟩ := fix4 k5
 obtain ⟨rfl, s6⟩ := fix4 k6
 obtain ⟨rfl, s7⟩ := fix4 k7
 have l1 := kindSize_le k1
 have l2 := kindSize_le k2
 rw [partsOf] at p7
 split at p7
 ·rename_i h0
  simp at p7
  subst p7
  have z1 := size_extract' d n1 d.size (Nat.le_refl _)
  have z2 := size_extract' (d.extract n1 d.size) n2 (d.extract n1 d.size).size (Nat.le_refl _)
  have z3 := size_extract' ((d.extract n1 d.size).extract n2 (d.extract n1 d.size).size) 4 _ (Nat.le_refl _)
  have z4 := size_extract' (((d.extract n1 d.size).extract n2 (d.extract n1 d.size).size).extract 4 ((d.extract n1 d.size).extract n2 (d.extract n1 d.size).size).size) 4 _ (Nat.le_refl _)
  generalize hD2 : (d.extract n1 d.size).extract n2 (d.extract n1 d.size).size = D2 at *
  generalize hD3 : D2.extract 4 D2.size = D3 at *
  generalize hD4 : D3.extract 4 D3.size = D4 at *
  have z5 := size_extract' D4 4 _ (Nat.le_refl _)
  generalize hD5 : D4.extract 4 D4.size = D5 at *
  have z6 := size_extract' D5 4 _ (Nat.le_refl _)
  generalize hD6 : D5.extract 4 D5.size = D6 at *
  have z7 := size_extract' D6 4 _ (Nat.le_refl _)
  have h20 : D2.size = 20 := by omega
  refine ⟨_, hp, rfl, by omega, by omega, by simp, ?_⟩
  show D2.extract 0 4 = _
  rw [← hD2, z1]
  have f1 : d.size - 20 = n1 + n2 := by omega
  have f2 : d.size - 16 = n1 + n2 + 4 := by omega
  rw [f1, f2]
  apply ba_ext
  ·rw [size_extract' _ _ _ (by rw [size_extract' _ _ _ (by omega)]; omega), size_extract' _ _ _ (by omega)]; omega
  ·intro j hj
   rw [size_extract' _ _ _ (by rw [size_extract' _ _ _ (by omega)]; omega)] at hj
   rw [bt_extract _ _ _ _ (by omega) (by rw [size_extract' _ _ _ (by omega)]; omega), bt_extract _ _ _ _ (by omega) (by omega), bt_extract _ _ _ _ (by omega) (Nat.le_refl _), bt_extract _ _ _ _ (by omega) (by omega)]
   congr 1; omega
 ·cases p7
def serN (d : ByteArray) : Nat := vN (d.extract (d.size - 20) (d.size - 16)) 4
theorem ser_size {d : ByteArray} (h : 20 ≤ d.size) : (d.extract (d.size - 20) (d.size - 16)).size = 4 := by rw [size_extract' _ _ _ (by omega)]; omega
def serL (M : List Rn) : Int := match M.find? (fun r => decide (r.t = 6)) with | some r => (serN r.d : Int) | none => 0
set_option maxRecDepth 100000 in
set_option maxHeartbeats 4000000 in
theorem dataSerial_any (r : Rn) (w : World) (h20 : 20 ≤ r.d.size) (h65 : r.d.size ≤ 65535) :
  Calls Tryz.prog 27 #[rcV r] w fun e w' => e = .returned (.int .i64 (serN r.d : Int)) ∧ Below w.heap.size w w' := by
 have K0 := hide' (Bk.start w r)
 obtain ⟨wa, hwa⟩ : ∃ wa, w.alloc (.cells #[.string r.o, .int .i64 r.t, .int .i64 r.c, .int .i64 r.l, .string r.d] 29) = wa := ⟨_, rfl⟩
 rw [hwa] at K0
 obtain ⟨v0, v1, v2, v3, v4⟩ := K0.out.cells
 obtain ⟨o, t, c, l, d⟩ := r
 unfold rcV
 simp only at v0 v1 v2 v3 v4 h20 h65 hwa ⊢
 have HVl := hide' (fun V => spellValue_any (d.extract (d.size - 20) (d.size - 16)) V (by rw [ser_size h20]; omega))
 have HVe : Hid ((vN (d.extract (d.size - 20) (d.size - 16)) (d.extract (d.size - 20) (d.size - 16)).size : Int) = (serN d : Int)) := by unfold Hid serN; rw [ser_size h20]
 rw [HVe.out] at HVl
 obtain ⟨m, hm⟩ : ∃ m, d.size - 20 = m := ⟨_, rfl⟩
 have e1 : (d.size : Int) - 20 = (m : Int) := by omega
 have e2 : IntKind.i64.wrap ((d.size : Int) - 20) = (m : Int) := by rw [e1, IntWalk.i64_in]; omega
 have e3 : IntKind.i64.wrap ((m : Int) + 4) = ((m + 4 : Nat) : Int) := by rw [IntWalk.i64_in] <;> omega
 have e4 : (0 : Int) ≤ (m : Int) := by omega
 have e5 : (m : Int) ≤ ((m + 4 : Nat) : Int) := by omega
 have e6 : ((m + 4 : Nat) : Int) ≤ (d.size : Int) := by omega
 have hm4 : d.size - 16 = m + 4 := by omega
 rw [hm, hm4] at HVl
 clear hm hm4
 go_enter Tryz.func27, Tryz.ntmps27
 go_wp2_with (go_at_call 63; refine (HVl.out _).mono ?_; rintro e w5 ⟨rfl, rfl⟩)
 go_ret
 exact ⟨rfl, K0.out.bl⟩
end Go.Proofs.YtoabnpdoicbpiaaGreat
namespace Go.Proofs.YtoabnpdoicbpiaaGreat
set_option linter.unusedVariables false
set_option linter.unusedSimpArgs false
open Go.RowKit Go.Shelf Go.Maps Go.Proofs.YtoabnpdoicbpiaaGreat.Nm Go.Proofs.YtoabnpdoicbpiaaGreat.Zs
section
variable {n : Nat} {W : World} {apex : ByteArray} {L : List Rn} {ord : List Nat} {Z RW NM C m cnt : Nat} {p : Option Addr} {cp : Nat} {f : ByteArray → Option Nat}
theorem Zon.soa (h : Zon n W apex L ord Z RW NM C m cnt p cp f) : ∃ r, (rowT (ord.map (rAt L)) ((rowsF (ord.map (seAt (L.map senS))) L.length (foldB apex, 6)).getD (0, 0))).head? = some r ∧ r.t = 6 ∧ zonR r = true ∧ serL (ord.map (rAt L)) = (serN r.d : Int) := by
 have H := h.laid
 have h5 : fstI (brkB apex L 5) L.length = -2 := h.rule (i := 1) (by show 1 < 8; omega)
 have h6 : (if hasB L apex 6 = true then (-2 : Int) else -1) = -2 := h.rule (i := 2) (by show 2 < 8; omega)
 have hh : hasB L apex 6 = true := by
  cases hb : hasB L apex 6 with
  | true => rfl
  | false => rw [hb] at h6; simp at h6
 have hsame : (ord.map (rAt L)).filter (fun r => mtc (foldB apex, 6) (senS r)) = (ord.map (rAt L)).filter (fun r => decide (r.t = 6)) := by
  apply List.filter_congr
  intro r hr
  have hrL := H.perm.mem_iff.1 hr
  obtain ⟨i, hi, rfl⟩ := mem_at hrL
  by_cases ht : (rAt L i).t = 6
  ·have hb : brk5 apex L i (rAt L i) = false := fst_inv h5 i hi
   unfold brk5 at hb
   rw [decide_eq_true ht, Bool.true_and, Bool.or_eq_false_iff] at hb
   have he : eqB (rAt L i).o apex = true := by simpa using hb.2
   rw [eq_dec (H.isn hi)] at he
   have he' := of_decide_eq_true he
   simp [mtc, senS, ht, he']
  ·simp [mtc, senS, ht]
 have hhead : ((ord.map (rAt L)).filter (fun r => decide (r.t = 6))).head? = (ord.map (rAt L)).find? (fun r => decide (r.t = 6)) := List.head?_filter ..
 obtain ⟨x, hx, hxt⟩ : ∃ x ∈ ord.map (rAt L), x.t = 6 := by
  unfold hasB at hh
  rw [List.any_eq_true] at hh
  obtain ⟨x, hx, hx2⟩ := hh
  rw [Bool.and_eq_true] at hx2
  exact ⟨x, H.perm.mem_iff.2 hx, of_decide_eq_true hx2.1⟩
 cases hf : (ord.map (rAt L)).find? (fun r => decide (r.t = 6)) with
 | none =>
  rw [List.find?_eq_none] at hf
  exact absurd (by simp [hxt]) (hf x hx)
 | some r =>
  refine ⟨r, ?_, ?_, H.tok r (List.mem_of_find?_eq_some hf), ?_⟩
  ·rw [H.row, hsame, hhead, hf]
  ·have := List.find?_some hf
   simpa using this
  ·unfold serL; rw [hf]
set_option maxRecDepth 100000 in
set_option maxHeartbeats 4000000 in
theorem zSerial_any (h : Zon n W apex L ord Z RW NM C m cnt p cp f) :
  Calls Tryz.prog 21 #[.pointer (some ⟨Z, 0, none⟩)] W fun r w' => r = .returned (.int .i64 (serL (ord.map (rAt L)))) ∧ Below W.heap.size W w' := by
 have z0 : W.cell? ⟨Z, 0, none⟩ = some (.string apex) := h.zx.cell rfl
 obtain ⟨r0, hr1, hr2, hr3, hr4⟩ := h.soa
 have hT := h.laid.tlen
 have hna := h.laid.na
 have h255 : apex.size ≤ 255 := ((isN_iff _).1 hna).1
 have HF := hide' (fun V => fold_any apex V (by unfold maxLen; omega))
 have hU := row_le h.laid.us (foldB apex, 6)
 have hUl : (ord.map (seAt (L.map senS))).length = L.length := by rw [List.length_map, h.laid.len]
 rw [hUl] at hU
 have HA : Hid (∀ V, Below W.heap.size W V → Calls Tryz.prog 53 #[.pointer (some ⟨Z, 0, none⟩), .string (foldB apex), .int .i64 6] V fun r w' => (∃ q c, r = .returned (.slice q (rowT (ord.map (rAt L)) ((rowsF (ord.map (seAt (L.map senS))) L.length (foldB apex, 6)).getD (0, 0))).length c) ∧ RsAt w' q (rowT (ord.map (rAt L)) ((rowsF (ord.map (seAt (L.map senS))) L.length (foldB apex, 6)).getD (0, 0)))) ∧ Below V.heap.size V w') := fun V hV => by
  have hs := h.step hV
  have hzx := hs.zx
  have hown := hs.own
  rw [← hT] at hzx hown
  exact at_any Z RW NM m apex p cp C (ord.map (rAt L)) (foldB apex, 6) _ V hzx hs.rows (plG_any (zfoldB_size hna) (by omega)) hown (by have := h.few; omega) (by rw [hT]; exact hU)
 obtain ⟨X, hX⟩ : ∃ X, rowT (ord.map (rAt L)) ((rowsF (ord.map (seAt (L.map senS))) L.length (foldB apex, 6)).getD (0, 0)) = X := ⟨_, rfl⟩
 rw [hX] at hr1 HA
 cases X with
 | nil => cases hr1
 | cons x X =>
  have hx0 : x = r0 := by simpa using hr1
  subst hx0
  obtain ⟨_, _, _, h20, h65, _⟩ := soa_parts (d := x.d) (by have := (ok_facts hr3).2.2.2.2.1; rw [hr2] at this; exact this)
  have HS := hide' (fun V => dataSerial_any x V h20 h65)
  have HE := hide' hr4
  obtain ⟨F, hF⟩ : ∃ F, foldB apex = F := ⟨_, rfl⟩
  rw [hF] at HF HA
  clear hF hX hr1 hr2 hr3 hr4 h20 h65 hU hUl hT hna h255 h
  obtain ⟨xo, xt, xc, xl, xd⟩ := x
  unfold rcV at HS
  simp only at HS HE
  have hB := Below.refl W.heap.size W
  go_enter Tryz.func21, Tryz.ntmps21
  go_wp2_with (first
   | (go_at_call 37; refine (HF.out _).mono ?_; rintro e w1 ⟨rfl, hB1⟩; have hB := bstep hB hB1 hB.size; clear hB1)
   | (go_at_call 53; refine (HA.out _ hB).mono ?_; rintro e w2 ⟨⟨q, c, rfl, hrs⟩, hB1⟩; have hB := bstep hB hB1 hB.size; obtain ⟨gq, oq, hq, hgq, y0, y1, y2, y3, y4⟩ := hrs 0 (by simp); subst hq; simp only [List.getElem_cons_zero, Nat.zero_mul, Nat.add_zero] at y0 y1 y2 y3 y4; clear hB1 hrs)
   | (go_at_call 27; refine (HS.out _).mono ?_; rintro e w3 ⟨rfl, hB1⟩; have hB := bstep hB hB1 hB.size; clear hB1))
  go_ret
  exact ⟨by rw [HE.out]; rfl, hB⟩
end
end Go.Proofs.YtoabnpdoicbpiaaGreat
