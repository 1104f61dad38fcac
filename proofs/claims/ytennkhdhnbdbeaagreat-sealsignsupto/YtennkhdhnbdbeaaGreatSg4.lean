import Derived.Test.YtennkhdhnbdbeaaGreatSg1G
import Derived.Test.YtennkhdhnbdbeaaGreatSf5
import Derived.Test.YtennkhdhnbdbeaaGreatSf4G
import Derived.Test.YtennkhdhnbdbeaaGreatBw1G
/-
  (seal.stamp).text. (The verifier's own text.)
-/
namespace Go.Proofs.YtennkhdhnbdbeaaGreat
set_option linter.unusedVariables false
set_option linter.unusedSimpArgs false
open Go.RowKit Go.Shelf Go.Sort Go.Proofs.YtennkhdhnbdbeaaGreat.Nm

/-- what is signed of one of a set's data -/
def lineB (ah : ByteArray) (d : List UInt8) : List UInt8 := ah.data.toList ++ (nB d.length 2).data.toList ++ d
/-- what is signed of a set -/
def txL (st ah : ByteArray) (ds : List (List UInt8)) : List UInt8 := st.data.toList ++ ds.flatMap (lineB ah)
/-- what stands ahead of each of a set's data -/
def ahB (l g : Nat) (o0 : ByteArray) (t0 : Nat) : ByteArray := owB l o0 ++ nB t0 2 ++ nB 1 2 ++ nB g 4
def isRegS (n : Nat) : Code → Bool
  | .region k _ _ => k == n
  | _ => false
/-- what stands behind a region -/
def tailsS (n : Nat) : Code → List Code
  | .seq a b => bif isRegS n a then [b] else tailsS n a ++ tailsS n b
  | .block _ c => tailsS n c
  | .scope c => tailsS n c
  | .cond _ a b => tailsS n a ++ tailsS n b
  | .loop c => tailsS n c
  | _ => []
theorem txL_snoc (st ah : ByteArray) (ds : List (List UInt8)) (k : Nat) (hk : k < ds.length) : txL st ah (ds.take (k + 1)) = txL st ah (ds.take k) ++ lineB ah ds[k] := by
  unfold txL
  rw [List.take_succ_eq_append_getElem hk, List.flatMap_append, List.append_assoc]
  simp
theorem cells_app (L : List UInt8) (X : ByteArray) : Lib.byteCells (L ++ X.data.toList) = Lib.byteCells L ++ Lib.strCells X := by simp [Lib.byteCells, Lib.strCells]
theorem own_others {w w' : World} {b bb n c : Nat} {g : Nat} {xs : List Value} (h : w.ownsRow bb 9 1 (.slice (some ⟨g, 0, none⟩) n c) n xs) (hK : Lib.OthersKept 5 (some b) w w') (hg : b < g) : w'.ownsRow bb 9 1 (.slice (some ⟨g, 0, none⟩) n c) n xs := by
  rcases id h.2 with ⟨h1, _⟩ | ⟨g', cap, cur, h1, hb, hh, rest⟩
  · cases h1
  · cases h1
    exact own_blk h (fun x hx => by
      simp only [Value.ownBlock, Option.some.injEq] at hx
      subst hx
      rw [hh]
      exact hK g _ hh (by simp; omega) (fun c fz e => by injection e with _ e; exact absurd e (by decide)))
theorem builder_lt {B b : Nat} {bs : List Value} {w : World} (h : Lib.IsBuilderF 82 5 B b bs w) : b < w.heap.size := by
  rcases h with ⟨_, v, hb, _⟩ | ⟨_, v, hb, _⟩
  · exact (Array.getElem?_eq_some_iff.1 hb).1
  · exact (Array.getElem?_eq_some_iff.1 hb).1
theorem lineB_len (ah : ByteArray) (d : List UInt8) : (lineB ah d).length = ah.size + 2 + d.length := by
  unfold lineB
  have : (nB d.length 2).data.size = 2 := nB_size _ _
  simp only [List.length_append, Array.length_toList]
  have h : ah.data.size = ah.size := rfl
  omega

set_option maxRecDepth 100000 in
set_option maxHeartbeats 8000000 in
theorem text_tail (c a l g u f t : Nat) (sg AH : ByteArray) (L : List Rn) (p : Option Addr) (cap : Nat) (w wA : World) (h0 : 0 < L.length) (hL : L.length ≤ 1048576) (HA : Hid (RsAt w p L)) (HZ : Hid (∀ r ∈ L, r.d.size ≤ 9223372036854775807)) (HFD : Hid (∀ d ∈ srt (fdL L), d.length ≤ 65535)) (hAH : AH.size ≤ 1048590) (hsg : sg.size ≤ 1048576) (hc : c < 65536) (ha : a < 256) (hl : l < 256) (hg : g < 4294967296) (hu : u < 4294967296) (hf : f < 4294967296) (ht : t < 65536) (HB : Hid (Below w.heap.size w wA)) (HX : Hid (Bx wA w.heap.size #[.int .i64 (c : Int), .int .i64 (a : Int), .int .i64 (l : Int), .int .i64 (g : Int), .int .i64 (u : Int), .int .i64 (f : Int), .int .i64 (t : Int), .string sg] 53)) (x0 x3 x4 x6 x7 x8 x9 x10 x11 x12 x13 x14 x15 x16 x17 x18 x19 x20 x21 x22 x23 x24 x25 x26 x27 x28 x29 x30 x31 x32 x33 x34 x35 x36 x37 x38 x39 x40 x41 x42 x43 x44 x45 x46 : Value) :
    Code.wp Tryz.prog (((Tryz.f30.body.map (tailsS 1)).getD []).getD 0 .skip) (bodyPost Tryz.prog Tryz.f30 fun e w' => e = .returned (.string ⟨(txL (stB c a l g u f t sg) AH (srt (fdL L))).toArray⟩) ∧ Below w.heap.size w w') ⟨List.toArray (x0 :: (.slice p L.length cap : Value) :: (.pointer (some ⟨w.heap.size, 0, none⟩) : Value) :: x3 :: x4 :: (.string AH : Value) :: x6 :: x7 :: x8 :: x9 :: x10 :: x11 :: x12 :: x13 :: x14 :: x15 :: x16 :: x17 :: x18 :: x19 :: x20 :: x21 :: x22 :: x23 :: x24 :: x25 :: x26 :: x27 :: x28 :: x29 :: x30 :: x31 :: x32 :: x33 :: x34 :: x35 :: x36 :: x37 :: x38 :: x39 :: x40 :: x41 :: x42 :: x43 :: x44 :: x45 :: x46 :: []), []⟩ wA := by
  obtain ⟨ds, hds⟩ : ∃ ds, srt (fdL L) = ds := ⟨_, rfl⟩
  have hdl : ds.length = L.length := by rw [← hds]; unfold srt; rw [List.length_mergeSort, fdL_len]
  rw [hds] at HFD ⊢
  have HDS0 := hide' hds
  have HDL := hide' hdl
  have HHB := hide' HB.out
  clear hds hdl
  obtain ⟨S0, hS0⟩ : ∃ S0, stB c a l g u f t sg = S0 := ⟨_, rfl⟩
  have HST := hide' (fun W => stamp_any c a l g u f t sg W hsg hc ha hl hg hu hf ht)
  have hS0z : S0.size ≤ 1048600 := by rw [← hS0]; unfold stB; simp only [ByteArray.size_append, nB_size]; omega
  rw [hS0] at HST ⊢
  clear hS0 hsg hc ha hl hg hu hf ht
  obtain ⟨wb, hwb⟩ : ∃ wb, wA.alloc (.cells #[.pointer none, .slice none 0 0] 82) = wb := ⟨_, rfl⟩
  have hb0 : Lib.IsBuilderF 82 5 wA.heap.size wA.heap.size (Lib.byteCells []) wb := hwb ▸ .inl ⟨Nat.le_refl _, .slice none 0 0, World.alloc_heap_new _ _, World.ownsRowF_nil _ _ _ _, by simp [Value.ownBlock]⟩
  have hAb : Below wA.heap.size wA wb := hwb ▸ (Below.refl _ wA).alloc (Nat.le_refl _) _
  have HXb : Hid (Bx wb w.heap.size #[.int .i64 (c : Int), .int .i64 (a : Int), .int .i64 (l : Int), .int .i64 (g : Int), .int .i64 (u : Int), .int .i64 (f : Int), .int .i64 (t : Int), .string sg] 53) := HX.out.below hAb HX.out.lt
  obtain ⟨y0, y1, y2, y3, y4, y5, y6, y7⟩ : wb.cell? ⟨w.heap.size, 0, none⟩ = some (.int .i64 (c : Int)) ∧ wb.cell? ⟨w.heap.size, 1, none⟩ = some (.int .i64 (a : Int)) ∧ wb.cell? ⟨w.heap.size, 2, none⟩ = some (.int .i64 (l : Int)) ∧ wb.cell? ⟨w.heap.size, 3, none⟩ = some (.int .i64 (g : Int)) ∧ wb.cell? ⟨w.heap.size, 4, none⟩ = some (.int .i64 (u : Int)) ∧ wb.cell? ⟨w.heap.size, 5, none⟩ = some (.int .i64 (f : Int)) ∧ wb.cell? ⟨w.heap.size, 6, none⟩ = some (.int .i64 (t : Int)) ∧ wb.cell? ⟨w.heap.size, 7, none⟩ = some (.string sg) := ⟨HXb.out.cell rfl, HXb.out.cell rfl, HXb.out.cell rfl, HXb.out.cell rfl, HXb.out.cell rfl, HXb.out.cell rfl, HXb.out.cell rfl, HXb.out.cell rfl⟩
  have HBU0 := hide' hb0
  have HAB := hide' hAb
  have HSZ : Hid ((Lib.byteCells ([] : List UInt8)).length + S0.size ≤ 140737488355328) := by unfold Hid; simp [Lib.byteCells]; omega
  have T1 : Hid True := trivial
  clear hb0 hAb
  conv => arg 2; whnf
  go_wp2_with (first
    | (go_at_call 31; refine (HST.out _).mono ?_; rintro e w5 ⟨rfl, hB⟩; have HBU5 := hide' (builder_below HBU0.out hB); have HA5 := hide' (bstep HAB.out hB HAB.out.size); clear hB y0 y1 y2 y3 y4 y5 y6 y7)
    | (go_at_call 72; have _ := T1; clear T1; refine (writeString_any wA.heap.size wA.heap.size (Lib.byteCells []) S0 _ HBU5.out HSZ.out HA5.out.size).mono ?_; rintro e w6 ⟨rfl, hbu, hB, hK⟩; have HBU6 : Hid (Lib.IsBuilderF 82 5 wA.heap.size wA.heap.size (Lib.byteCells S0.data.toList) w6) := (by have e : Lib.byteCells S0.data.toList = Lib.byteCells [] ++ Lib.strCells S0 := (by rw [← cells_app]; rfl); rw [e]; exact .inr hbu); have HA6 := hide' (HA5.out.trans hB); clear hbu hB hK)
    | (go_at_call 73; refine (folded_any L p cap _ h0 hL (rsAt_below7 HA.out (HB.out.trans (HA6.out.mono HB.out.size))) HZ.out).mono ?_; rintro e w7 ⟨gr, cr, rfl, ho, hB⟩; rw [HDS0.out] at ho; have HBU7 := hide' (builder_below HBU6.out hB); have HA7 := hide' (bstep HA6.out hB HA6.out.size); have HO7 := hide' ho; have HG7 : Hid (wA.heap.size < gr) := (by unfold Hid; have := (ho.lt gr rfl).1; have := HA6.out.size; have := (builder_lt HBU6.out); omega); clear ho hB))
  clear HBU0 HBU5 HBU6
  go_loopw [33] (fun iv wr => ∃ (k N : Nat), iv = .int .i64 (k : Int) ∧ k ≤ L.length ∧ Hid ((txL S0 AH (ds.take k)).length = N) ∧ N ≤ 1048600 + k * 1200000 ∧ Hid (Lib.IsBuilderF 82 5 wA.heap.size wA.heap.size (Lib.byteCells (txL S0 AH (ds.take k))) wr) ∧ Hid (wr.ownsRow w6.heap.size 9 1 (.slice (some ⟨gr, 0, none⟩) L.length cr) L.length (ds.map encStr)) ∧ Hid (Below wA.heap.size wA wr)) (fun iv _ => L.length - (intOf iv).toNat)
  case atStart => exact ⟨0, S0.size, rfl, Nat.zero_le _, by unfold Hid txL; simp, by omega, by unfold Hid txL; simpa using HBU7.out, HO7, HA7⟩
  case round =>
    clear HBU7 HO7 HA7
    obtain ⟨k, N, rfl, hk, HNL, hN, HBU, HO, HAr⟩ := hrel
    by_cases hlt : k < L.length
    · have hkd : k < ds.length := by rw [HDL.out]; exact hlt
      have hcl : wr.cell? ⟨gr, k, none⟩ = some (encStr ds[k]) := by rw [HO.out.cellAt k (by omega)]; simp [hkd]
      have HTX := hide' (txL_snoc S0 AH ds k hkd)
      have hdk := HFD.out ds[k] (List.getElem_mem hkd)
      obtain ⟨dk, hdk2⟩ : ∃ dk, ds[k] = dk := ⟨_, rfl⟩
      rw [hdk2] at hcl HTX hdk
      clear hdk2
      obtain ⟨Dk, hDk⟩ : ∃ Dk : ByteArray, Dk = ⟨dk.toArray⟩ := ⟨_, rfl⟩
      have hDl : Dk.data.toList = dk := by rw [hDk]
      have hDs : Dk.size = dk.length := by rw [hDk]; rfl
      have hc2 : wr.cell? ⟨gr, k, none⟩ = some (.string Dk) := by rw [hcl, hDk]
      obtain ⟨TX, hTX⟩ : ∃ TX, txL S0 AH (ds.take k) = TX := ⟨_, rfl⟩
      rw [hTX] at HBU HTX HNL
      have HDL2 := hide' hDl
      have HDS := hide' hDs
      have HNB : Hid ((nB dk.length 2).size = 2) := nB_size _ _
      have hNB2 := HNL.out
      have hds64 : Dk.size ≤ 65535 := by omega
      clear hcl hDk hDl hTX hDs hNB2
      have q1 : Hid ((Lib.byteCells TX).length + AH.size ≤ 140737488355328) := by unfold Hid; rw [Lib.byteCells_length]; have := HNL.out; omega
      have q2 : Hid ((Lib.byteCells (TX ++ AH.data.toList)).length + (nB dk.length 2).size ≤ 140737488355328) := by unfold Hid; rw [Lib.byteCells_length, HNB.out]; simp only [List.length_append, Array.length_toList]; have := HNL.out; have h : AH.data.size = AH.size := rfl; omega
      have q3 : Hid ((Lib.byteCells ((TX ++ AH.data.toList) ++ (nB dk.length 2).data.toList)).length + Dk.size ≤ 140737488355328) := by unfold Hid; rw [Lib.byteCells_length]; simp only [List.length_append, Array.length_toList]; have := HNL.out; have h : AH.data.size = AH.size := rfl; have h2 : (nB dk.length 2).data.size = 2 := HNB.out; omega
      have HSB := hide' (fun W => spellBytes_any 2 dk.length W (by omega) (by omega))
      have HSE : Hid (((Dk.size : Nat) : Int) = ((dk.length : Nat) : Int)) := by unfold Hid; rw [HDS.out]
      rw [← HDS.out] at HSB
      have HGR := HG7
      have W1 : Hid True := trivial
      go_wp2_with (first
        | (go_at_call 72; have _ := W1; clear W1; refine (writeString_any wA.heap.size wA.heap.size (Lib.byteCells TX) AH _ HBU.out q1.out HAr.out.size).mono ?_; rintro e v1 ⟨rfl, hbu, hB, hK⟩; have HU1 : Hid (Lib.IsBuilderF 82 5 wA.heap.size wA.heap.size (Lib.byteCells (TX ++ AH.data.toList)) v1) := (by rw [cells_app]; exact .inr hbu); have HA1 := hide' (HAr.out.trans hB); have HO1 := hide' (own_others HO.out hK HGR.out); clear hbu hB hK; have W2 : Hid True := trivial)
        | (go_at_call 32; refine (HSB.out _).mono ?_; rintro e v2 ⟨rfl, hB⟩; have HU2 := hide' (builder_below HU1.out hB); have HA2 := hide' (bstep HA1.out hB HA1.out.size); have HO2 := hide' (ownsRow_below HO1.out hB); clear hB)
        | (go_at_call 72; have _ := W2; clear W2; refine (writeString_any wA.heap.size wA.heap.size (Lib.byteCells (TX ++ AH.data.toList)) (nB Dk.size 2) _ HU2.out (by rw [HDS.out]; exact q2.out) HA2.out.size).mono ?_; rintro e v3 ⟨rfl, hbu, hB, hK⟩; have HU3 : Hid (Lib.IsBuilderF 82 5 wA.heap.size wA.heap.size (Lib.byteCells ((TX ++ AH.data.toList) ++ (nB Dk.size 2).data.toList)) v3) := (by rw [cells_app]; exact .inr hbu); have HA3 := hide' (HA2.out.trans hB); have HO3 := hide' (own_others HO2.out hK HGR.out); clear hbu hB hK; have W3 : Hid True := trivial)
        | (go_at_call 72; have _ := W3; clear W3; refine (writeString_any wA.heap.size wA.heap.size (Lib.byteCells ((TX ++ AH.data.toList) ++ (nB Dk.size 2).data.toList)) Dk _ HU3.out (by have h := q3.out; rw [← HDS.out] at h; exact h) HA3.out.size).mono ?_; rintro e v4 ⟨rfl, hbu, hB, hK⟩; have HU4 : Hid (Lib.IsBuilderF 82 5 wA.heap.size wA.heap.size (Lib.byteCells (((TX ++ AH.data.toList) ++ (nB Dk.size 2).data.toList) ++ Dk.data.toList)) v4) := (by rw [cells_app]; exact .inr hbu); have HA4 := hide' (HA3.out.trans hB); have HO4 := hide' (own_others HO3.out hK HGR.out); clear hbu hB hK))
      have HE : Hid (txL S0 AH (ds.take (k + 1)) = ((TX ++ AH.data.toList) ++ (nB Dk.size 2).data.toList) ++ Dk.data.toList) := by
        unfold Hid
        rw [HTX.out, HDL2.out, HDS.out]
        unfold lineB
        simp only [List.append_assoc]
      refine ⟨⟨k + 1, N + (AH.size + 2 + dk.length), by go_num, by omega, ?_, by have := hdk; omega, by unfold Hid; rw [HE.out]; exact HU4.out, HO4, HA4⟩, ?_⟩
      · unfold Hid; rw [HTX.out, List.length_append, lineB_len, HNL.out]
      · simp [intOf]; omega
    · obtain rfl : k = L.length := by omega
      have hal : ds.take L.length = ds := List.take_of_length_le (by rw [HDL.out]; exact Nat.le_refl _)
      rw [hal] at HBU
      go_wp2_with (go_at_call 74; refine (builderString_any wA.heap.size wA.heap.size (txL S0 AH ds) _ HBU.out HAr.out.size).mono ?_; rintro e w9 ⟨rfl, hbu, hB, hK⟩; have HB9 := hide' (HHB.out.trans ((HAr.out.trans hB).mono HHB.out.size)); clear hbu hB hK)
      go_ret
      exact ⟨rfl, HB9.out⟩
set_option maxRecDepth 100000 in
set_option maxHeartbeats 8000000 in
/-- (seal.stamp).text -/
theorem text_any (c a l g u f t : Nat) (sg : ByteArray) (L : List Rn) (p : Option Addr) (cap : Nat) (w : World) (h0 : 0 < L.length) (hL : L.length ≤ 1048576) (hat : RsAt w p L) (hz : ∀ r ∈ L, r.o.size ≤ maxLen ∧ r.d.size ≤ 9223372036854775807) (hfd : ∀ d ∈ fdL L, d.length ≤ 65535) (hsg : sg.size ≤ 1048576) (hc : c < 65536) (ha : a < 256) (hl : l < 256) (hg : g < 4294967296) (hu : u < 4294967296) (hf : f < 4294967296) (ht : t < 65536) (t0 : Nat) (ht0 : (L[0]'h0).t = (t0 : Int)) (ht1 : t0 < 65536) (hos : (starB (tailB (L[0]'h0).o l)).size ≤ maxLen) (hot : (tailB (L[0]'h0).o l).size ≤ maxLen) (hob : (owB l (L[0]'h0).o).size ≤ 1048576) :
    Calls Tryz.prog 30 #[.agg #[.int .i64 (c : Int), .int .i64 (a : Int), .int .i64 (l : Int), .int .i64 (g : Int), .int .i64 (u : Int), .int .i64 (f : Int), .int .i64 (t : Int), .string sg], .slice p L.length cap] w fun e w' => e = .returned (.string ⟨(txL (stB c a l g u f t sg) (ahB l g (L[0]'h0).o t0) (srt (fdL L))).toArray⟩) ∧ Below w.heap.size w w' := by
  have HA := hide' hat
  have HZD : Hid (∀ r ∈ L, r.d.size ≤ 9223372036854775807) := fun r hr => (hz r hr).2
  have HFD : Hid (∀ d ∈ srt (fdL L), d.length ≤ 65535) := fun d hd => hfd d ((List.mergeSort_perm _ _).mem_iff.1 hd)
  obtain ⟨g0, off, hp, hgl, e0, e1, e2, e3, e4⟩ := hat 0 h0
  have hxz := hz _ (List.getElem_mem h0)
  obtain ⟨x, hx⟩ : ∃ x, L[0]'h0 = x := ⟨_, rfl⟩
  rw [hx] at e0 e1 e2 e3 e4 ht0 hos hot hob hxz ⊢
  clear hx hz hfd hat
  obtain ⟨xo, xt, xc, xl, xd⟩ := x
  simp only [Nat.zero_mul, Nat.add_zero] at e0 e1 e2 e3 e4 ht0 hos hot hob hxz ⊢
  subst ht0
  subst hp
  obtain ⟨O, hO⟩ : ∃ O, owB (l : Int) xo = O := ⟨_, rfl⟩
  obtain ⟨X1, hX1⟩ : ∃ X, nB t0 2 = X := ⟨_, rfl⟩
  obtain ⟨X2, hX2⟩ : ∃ X, nB 1 2 = X := ⟨_, rfl⟩
  obtain ⟨X3, hX3⟩ : ∃ X, nB g 4 = X := ⟨_, rfl⟩
  have z1 : X1.size = 2 := by rw [← hX1, nB_size]
  have z2 : X2.size = 2 := by rw [← hX2, nB_size]
  have z3 : X3.size = 4 := by rw [← hX3, nB_size]
  have HV : Hid (ahB l g xo t0 = O ++ X1 ++ X2 ++ X3) := by unfold Hid ahB; rw [hO, hX1, hX2, hX3]
  rw [HV.out]
  rw [hO] at hob
  have s1 : ∀ W : World, (Op.stringOp .add O X1).run Tryz.prog W = .ok (.string (O ++ X1)) W := fun W => run_string_add_sum W _ _ (by omega)
  have s2 : ∀ W : World, (Op.stringOp .add (O ++ X1) X2).run Tryz.prog W = .ok (.string (O ++ X1 ++ X2)) W := fun W => run_string_add_sum W _ _ (by simp only [ByteArray.size_append]; omega)
  have s3 : ∀ W : World, (Op.stringOp .add (O ++ X1 ++ X2) X3).run Tryz.prog W = .ok (.string (O ++ X1 ++ X2 ++ X3)) W := fun W => run_string_add_sum W _ _ (by simp only [ByteArray.size_append]; omega)
  have HAZ : Hid ((O ++ X1 ++ X2 ++ X3).size ≤ 1048590) := by unfold Hid; simp only [ByteArray.size_append]; omega
  have HOW := hide' (fun W => owner_any c a l g u f t sg xo W hxz.1 hos hot)
  rw [hO] at HOW
  have HX1 := hide' hX1
  have HX2 := hide' hX2
  have HX3 := hide' hX3
  obtain ⟨C0, hC0⟩ : ∃ C0, w.alloc (.cells #[.int .i64 (c : Int), .int .i64 (a : Int), .int .i64 (l : Int), .int .i64 (g : Int), .int .i64 (u : Int), .int .i64 (f : Int), .int .i64 (t : Int), .string sg] 53) = C0 := ⟨_, rfl⟩
  have HH : Hid (Bx C0 w.heap.size #[.int .i64 (c : Int), .int .i64 (a : Int), .int .i64 (l : Int), .int .i64 (g : Int), .int .i64 (u : Int), .int .i64 (f : Int), .int .i64 (t : Int), .string sg] 53) := hC0 ▸ World.alloc_heap_new w _
  have HB0 : Hid (Below w.heap.size w C0) := hC0 ▸ (Below.refl _ _).alloc (Nat.le_refl _) _
  have QF : Hid (∀ W : World, Bx W w.heap.size #[.int .i64 (c : Int), .int .i64 (a : Int), .int .i64 (l : Int), .int .i64 (g : Int), .int .i64 (u : Int), .int .i64 (f : Int), .int .i64 (t : Int), .string sg] 53 → Below w.heap.size w W → W.cell? ⟨w.heap.size, 0, none⟩ = some (.int .i64 (c : Int)) ∧ W.cell? ⟨w.heap.size, 1, none⟩ = some (.int .i64 (a : Int)) ∧ W.cell? ⟨w.heap.size, 2, none⟩ = some (.int .i64 (l : Int)) ∧ W.cell? ⟨w.heap.size, 3, none⟩ = some (.int .i64 (g : Int)) ∧ W.cell? ⟨w.heap.size, 4, none⟩ = some (.int .i64 (u : Int)) ∧ W.cell? ⟨w.heap.size, 5, none⟩ = some (.int .i64 (f : Int)) ∧ W.cell? ⟨w.heap.size, 6, none⟩ = some (.int .i64 (t : Int)) ∧ W.cell? ⟨w.heap.size, 7, none⟩ = some (.string sg) ∧ W.cell? ⟨g0, off, none⟩ = some (.string xo) ∧ W.cell? ⟨g0, off + 1, none⟩ = some (.int .i64 (t0 : Int))) := fun W h hb => ⟨h.cell rfl, h.cell rfl, h.cell rfl, h.cell rfl, h.cell rfl, h.cell rfl, h.cell rfl, h.cell rfl, (hb.cell (p := ⟨g0, off, none⟩) hgl).trans e0, (hb.cell (p := ⟨g0, off + 1, none⟩) hgl).trans e1⟩
  obtain ⟨k0, k1, k2, k3, k4, k5, k6, k7, k8, k9⟩ := QF.out C0 HH.out HB0.out
  have HNM := hide' (And.intro hsg (And.intro hc (And.intro ha (And.intro hl (And.intro hg (And.intro hu (And.intro hf ht)))))))
  have HT1 := hide' ht1
  have HH0 := hide' h0
  have HHL := hide' hL
  have hlen0 : (0 : Int) < (L.length : Int) := by omega
  have T1 : Hid True := trivial
  have T2 : Hid True := trivial
  have T3 : Hid True := trivial
  clear hX1 hX2 hX3 z1 z2 z3 hO HV e0 e1 e2 e3 e4 hos hot hob hxz hsg hc ha hl hg hu hf ht ht1
  go_enter Tryz.func30, Tryz.ntmps30
  go_upto_region 1 with fail
  rename_i K hK
  have HK := hide' hK
  clear hK
  try rw [hC0]
  clear hC0
  go_region_held3 (fun w' => w'.cell? ⟨w.heap.size, 0, none⟩ = some (.int .i64 (c : Int)) ∧ w'.cell? ⟨w.heap.size, 1, none⟩ = some (.int .i64 (a : Int)) ∧ w'.cell? ⟨w.heap.size, 2, none⟩ = some (.int .i64 (l : Int)) ∧ w'.cell? ⟨w.heap.size, 3, none⟩ = some (.int .i64 (g : Int)) ∧ w'.cell? ⟨w.heap.size, 4, none⟩ = some (.int .i64 (u : Int)) ∧ w'.cell? ⟨w.heap.size, 5, none⟩ = some (.int .i64 (f : Int)) ∧ w'.cell? ⟨w.heap.size, 6, none⟩ = some (.int .i64 (t : Int)) ∧ w'.cell? ⟨w.heap.size, 7, none⟩ = some (.string sg) ∧ w'.cell? ⟨g0, off, none⟩ = some (.string xo) ∧ w'.cell? ⟨g0, off + 1, none⟩ = some (.int .i64 (t0 : Int))) (first | go_keep | exact QF.out _ H4.out B4.out | exact QF.out _ H3.out B3.out | exact QF.out _ H2.out B2.out | exact QF.out _ H1.out B1.out) (first
    | (go_at_call 71; refine (HOW.out _).mono ?_; rintro r w1 ⟨rfl, hB⟩; have H1 : Hid (Bx w1 w.heap.size #[.int .i64 (c : Int), .int .i64 (a : Int), .int .i64 (l : Int), .int .i64 (g : Int), .int .i64 (u : Int), .int .i64 (f : Int), .int .i64 (t : Int), .string sg] 53) := (by first | exact HH.out.below hB HH.out.lt | exact (bx_drew HH.out).below hB HH.out.lt); have B1 : Hid (Below w.heap.size w w1) := (by first | exact bstep HB0.out hB HB0.out.size | exact bstep HB0.out.drew hB HB0.out.size); clear hB)
    | (go_at_call 32; have _ := T1; clear T1; refine (spellBytes_any 2 t0 _ (by omega) (by have := HT1.out; omega)).mono ?_; rw [HX1.out]; rintro r w2 ⟨rfl, hB⟩; have H2 : Hid (Bx w2 w.heap.size #[.int .i64 (c : Int), .int .i64 (a : Int), .int .i64 (l : Int), .int .i64 (g : Int), .int .i64 (u : Int), .int .i64 (f : Int), .int .i64 (t : Int), .string sg] 53) := (by first | exact H1.out.below hB H1.out.lt | exact (bx_drew H1.out).below hB H1.out.lt); have B2 : Hid (Below w.heap.size w w2) := (by first | exact bstep B1.out hB B1.out.size | exact bstep B1.out.drew hB B1.out.size); clear hB)
    | (go_at_call 32; have _ := T2; clear T2; refine (spellBytes_any 2 1 _ (by omega) (by omega)).mono ?_; rw [HX2.out]; rintro r w3 ⟨rfl, hB⟩; have H3 : Hid (Bx w3 w.heap.size #[.int .i64 (c : Int), .int .i64 (a : Int), .int .i64 (l : Int), .int .i64 (g : Int), .int .i64 (u : Int), .int .i64 (f : Int), .int .i64 (t : Int), .string sg] 53) := (by first | exact H2.out.below hB H2.out.lt | exact (bx_drew H2.out).below hB H2.out.lt); have B3 : Hid (Below w.heap.size w w3) := (by first | exact bstep B2.out hB B2.out.size | exact bstep B2.out.drew hB B2.out.size); clear hB)
    | (go_at_call 32; have _ := T3; clear T3; refine (spellBytes_any 4 g _ (by omega) (by have := HNM.out.2.2.2.2.1; omega)).mono ?_; rw [HX3.out]; rintro r w4 ⟨rfl, hB⟩; have H4 : Hid (Bx w4 w.heap.size #[.int .i64 (c : Int), .int .i64 (a : Int), .int .i64 (l : Int), .int .i64 (g : Int), .int .i64 (u : Int), .int .i64 (f : Int), .int .i64 (t : Int), .string sg] 53) := (by first | exact H3.out.below hB H3.out.lt | exact (bx_drew H3.out).below hB H3.out.lt); have B4 : Hid (Below w.heap.size w w4) := (by first | exact bstep B3.out hB B3.out.size | exact bstep B3.out.drew hB B3.out.size); clear hB))
  all_goals (try clear HOW HX1 HX2 HX3 QF k0 k1 k2 k3 k4 k5 k6 k7 k8 k9 s1 s2 s3)
  all_goals (go_wp2_with fail)
  all_goals (refine HK.out _ _ ?_)
  all_goals (first | exact text_tail c a l g u f t sg (O ++ X1 ++ X2 ++ X3) L _ cap w _ HH0.out HHL.out HA HZD HFD HAZ.out HNM.out.1 HNM.out.2.1 HNM.out.2.2.1 HNM.out.2.2.2.1 HNM.out.2.2.2.2.1 HNM.out.2.2.2.2.2.1 HNM.out.2.2.2.2.2.2.1 HNM.out.2.2.2.2.2.2.2 B4 H4 _ _ _ _ _ _ _ _ _ _ _ _ _ _ _ _ _ _ _ _ _ _ _ _ _ _ _ _ _ _ _ _ _ _ _ _ _ _ _ _ _ _ _ _ | exact text_tail c a l g u f t sg (O ++ X1 ++ X2 ++ X3) L _ cap w _ HH0.out HHL.out HA HZD HFD HAZ.out HNM.out.1 HNM.out.2.1 HNM.out.2.2.1 HNM.out.2.2.2.1 HNM.out.2.2.2.2.1 HNM.out.2.2.2.2.2.1 HNM.out.2.2.2.2.2.2.1 HNM.out.2.2.2.2.2.2.2 (hide' B4.out.drew) (hide' (bx_drew H4.out)) _ _ _ _ _ _ _ _ _ _ _ _ _ _ _ _ _ _ _ _ _ _ _ _ _ _ _ _ _ _ _ _ _ _ _ _ _ _ _ _ _ _ _ _)
end Go.Proofs.YtennkhdhnbdbeaaGreat
