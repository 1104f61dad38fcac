import Derived.Test.YtennkhdhnbdbeaaGreatTi3G
import Derived.Test.YtennkhdhnbdbeaaGreatSg4
import Derived.Test.YtennkhdhnbdbeaaGreatSd1G
import Derived.Test.YtennkhdhnbdbeaaGreatSf4G
import Derived.Test.YtennkhdhnbdbeaaGreatPrtG
import Derived.Test.YtennkhdhnbdbeaaGreatSk8
import Derived.Test.YtennkhdhnbdbeaaGreatSf2G
import Derived.Test.YtennkhdhnbdbeaaGreatSf1G
import Derived.Test.YtennkhdhnbdbeaaGreatSg8
import Derived.Test.YtennkhdhnbdbeaaGreatSg9
import Derived.Test.YtennkhdhnbdbeaaGreatSgd
/-
  gazetteerref4.Signed: its loops. (The verifier's own text.)
-/
namespace Go.Proofs.YtennkhdhnbdbeaaGreat
set_option linter.unusedVariables false
set_option linter.unusedSimpArgs false
open Go.RowKit Go.Shelf Go.Sort Go.Proofs.YtennkhdhnbdbeaaGreat.Nm

theorem fdR_map (L : List Rn) : (L.map fdR).map (·.data.toList) = fdL L := by rw [List.map_map]; rfl
set_option maxRecDepth 100000 in
set_option maxHeartbeats 8000000 in
theorem signed_tail (L : List Rn) (g off nl cap gp op np cp : Nat) (t0 : Nat) (p3 S0 OW AH : ByteArray) (w V : World) (hn : 0 < nl) (hnl : nl ≤ 1048576) (hnp : 3 < np) (HNL : Hid (L.length = nl)) (HAT : Hid (RsAt w (some ⟨g, off, none⟩) L)) (HP3 : Hid (gp < w.heap.size ∧ w.cell? ⟨gp, op + 3, none⟩ = some (.string p3))) (HT0 : Hid ((hdR L).t = (t0 : Int))) (ht0 : t0 < 65536) (HZ : Hid (∀ r ∈ L, r.d.size ≤ 9223372036854775807 ∧ errD r.t r.d = 0)) (HB0 : Hid (Below w.heap.size w V))
    (HAH : Hid (AH = OW ++ nB t0 2 ++ ⟨#[0, 1]⟩ ++ p3)) (hS0 : S0.size ≤ 1048600) (hOW : OW.size ≤ 255) (hp3 : p3.size ≤ 4) (x2 x3 x4 x7 x9 x10 x11 x12 x13 x14 x15 x16 x17 x18 x19 x20 x21 x22 x23 x24 x25 x26 x27 x28 x29 x30 x31 x32 x33 x34 x35 x36 x37 x38 x39 x40 x41 x42 x43 x44 x45 x46 x47 x48 x49 x50 x51 x52 x53 x54 x55 x56 x57 x58 x59 x60 x61 x62 x63 x64 x65 x66 x67 x68 x69 x70 x71 x72 x73 x74 x75 x76 x77 x78 x79 x80 x81 x82 x83 x84 x85 x86 x87 x88 x89 x90 x91 x92 x93 x94 x95 x96 x97 x98 x99 x100 x101 x102 x103 x104 x105 : Value) :
    Code.wp Tryz.prog (((Tryz.f44.body.map (tailsS 6)).getD []).getD 0 .skip) (bodyPost Tryz.prog Tryz.f44 fun r w' => r = .returned (.string ⟨(txL S0 AH (srt (fdL L))).toArray⟩) ∧ Below w.heap.size w w') ⟨List.toArray ((.slice (some ⟨gp, op, none⟩) np cp : Value) :: (.slice (some ⟨g, off, none⟩) nl cap : Value) :: x2 :: x3 :: x4 :: (.string S0 : Value) :: (.string OW : Value) :: x7 :: (.slice none 0 0 : Value) :: x9 :: x10 :: x11 :: x12 :: x13 :: x14 :: x15 :: x16 :: x17 :: x18 :: x19 :: x20 :: x21 :: x22 :: x23 :: x24 :: x25 :: x26 :: x27 :: x28 :: x29 :: x30 :: x31 :: x32 :: x33 :: x34 :: x35 :: x36 :: x37 :: x38 :: x39 :: x40 :: x41 :: x42 :: x43 :: x44 :: x45 :: x46 :: x47 :: x48 :: x49 :: x50 :: x51 :: x52 :: x53 :: x54 :: x55 :: x56 :: x57 :: x58 :: x59 :: x60 :: x61 :: x62 :: x63 :: x64 :: x65 :: x66 :: x67 :: x68 :: x69 :: x70 :: x71 :: x72 :: x73 :: x74 :: x75 :: x76 :: x77 :: x78 :: x79 :: x80 :: x81 :: x82 :: x83 :: x84 :: x85 :: x86 :: x87 :: x88 :: x89 :: x90 :: x91 :: x92 :: x93 :: x94 :: x95 :: x96 :: x97 :: x98 :: x99 :: x100 :: x101 :: x102 :: x103 :: x104 :: x105 :: []), []⟩ V := by
  have hni : (0 : Int) < (nl : Int) := by omega
  have hpi : (3 : Int) < (np : Int) := by omega
  conv => arg 2; whnf
  go_wp2_with fail
  go_loopw [8, 64] (fun vl iv wr => ∃ k : Nat, iv = .int .i64 (k : Int) ∧ k ≤ nl ∧ Hid (wr.ownsRow w.heap.size 9 1 vl k (((L.take k).map fdR).map Value.string)) ∧ Hid (Below w.heap.size w wr)) (fun _ iv _ => nl - (intOf iv).toNat)
  case atStart => exact ⟨0, rfl, Nat.zero_le _, World.ownsRow_nil _ _ _ _, HB0⟩
  case round =>
    obtain ⟨k, rfl, hk, OW1, HB⟩ := hrel
    by_cases hlt : k < nl
    · have hki : (k : Int) < (nl : Int) := by omega
      have hkl : k < L.length := by rw [HNL.out]; exact hlt
      obtain ⟨g', off', hpp, _, e0, e1, e2, e3, e4⟩ := (rsAt_below7 HAT.out HB.out) k hkl
      injection hpp with hpp
      injection hpp with hp1 hp2
      subst hp1
      subst hp2
      have hdz := (HZ.out _ (List.getElem_mem hkl)).1
      have HTK : Hid ((L.take (k + 1)).map fdR = (L.take k).map fdR ++ [fdR L[k]]) := by unfold Hid; rw [List.take_succ_eq_append_getElem hkl, List.map_append]; rfl
      obtain ⟨x, hx⟩ : ∃ x, L[k] = x := ⟨_, rfl⟩
      rw [hx] at e0 e1 e2 e3 e4 hdz HTK
      clear hx
      obtain ⟨o, t, c, l, d⟩ := x
      have HFD := hide' (fun W => refFoldData_any t d W hdz)
      have HFE : Hid (fdR ⟨o, t, c, l, d⟩ = foldD t d) := rfl
      rw [HFE.out] at HTK
      generalize foldD t d = X at *
      obtain ⟨W1, hW1⟩ : ∃ W1, wr.alloc (.cells #[.string o, .int .i64 t, .int .i64 c, .int .i64 l, .string d] 27) = W1 := ⟨_, rfl⟩
      have hb1 : Below wr.heap.size wr W1 := by rw [← hW1]; exact (Below.refl _ _).alloc (Nat.le_refl _) _
      have hx1 : Bx (wr.alloc (.cells #[.string o, .int .i64 t, .int .i64 c, .int .i64 l, .string d] 27)) wr.heap.size #[.string o, .int .i64 t, .int .i64 c, .int .i64 l, .string d] 27 := World.alloc_heap_new wr _
      rw [hW1] at hx1
      have q1 := hx1.cell (j := 1) rfl
      have q4 := hx1.cell (j := 4) rfl
      have O1 := hide' (ownsRow_below OW1.out hb1)
      have B1 := hide' (bstep HB.out hb1 HB.out.size)
      clear hx1 hb1
      go_wp2_with (first
        | (go_at_call 77; refine (HFD.out _).mono ?_; rintro r w2 ⟨rfl, hB⟩; have O2 := hide' (ownsRow_below (ownsRow_below O1.out hB) ((Below.refl _ w2).alloc (Nat.le_refl _) (.cells #[.string X] 9))); have B2 := hide' ((bstep B1.out hB B1.out.size).alloc (bstep B1.out hB B1.out.size).size (.cells #[.string X] 9)); have hat2 : StrsAt (w2.alloc (.cells #[.string X] 9)) (some ⟨w2.heap.size, 0, none⟩) [X] := one_str w2 X; clear hB)
        | (at_builtin; refine wpList_append_strs rfl _ _ rfl w.heap.size _ _ _ rfl O2.out (some ⟨w2.heap.size, 0, none⟩) [X] 1 rfl hat2 (fun e => by cases e) (by simp only [List.length_cons, List.length_nil]; omega) B2.out.size ?_; intro v3 w3 hown3 hg3; have B3 := hide' (B2.out.grown hg3 B2.out.size (fun q e => ownBlock_le O2.out e)); have O3 := hide' hown3; clear hown3 hg3 hat2))
      refine ⟨⟨k + 1, by go_num, by omega, ?_, B3⟩, by simp [intOf]; omega⟩
      have h9 := O3.out
      unfold Hid
      rw [HTK.out]
      simpa using h9
    · obtain rfl : k = nl := by omega
      have hall : L.take k = L := List.take_of_length_le (by rw [HNL.out]; exact Nat.le_refl _)
      rw [hall] at OW1
      have hll : (L.map fdR).length = k := by rw [List.length_map]; exact HNL.out
      obtain ⟨pl, cl, rfl, -⟩ := owns_shape OW1.out
      have HSL : Hid (StrsAt wr pl (L.map fdR)) := by
        obtain ⟨p', c', hv, hs⟩ := Strs.of_owns (l := L.map fdR) (by rw [hll]; exact OW1.out)
        injection hv with h1 h2 h3
        subst h1
        exact hs
      have HSR := hide' (refSorted_any (L.map fdR) pl cl wr (by omega) HSL.out)
      rw [hll, fdR_map] at HSR
      go_wp2_with (go_at_call 85; refine HSR.out.mono ?_; rintro r w4 ⟨v4, out, rfl, ho4, hs4, hB⟩; have HO4 := hide' ho4; have HS4 := hide' hs4; have HB4 := hide' (bstep HB.out hB HB.out.size); obtain ⟨po, co, rfl, -, -, hsh⟩ := owns_shape ho4; clear ho4 hs4 hB)
      have B50 : Hid (Below w4.heap.size w4 w4) := Below.refl _ _
      have hol : out.length = k := by have := HO4.out.1; simpa using this
      go_loopw [5, 80] (fun vs iv wr2 => ∃ (j : Nat) (TX : ByteArray), iv = .int .i64 (j : Int) ∧ j ≤ k ∧ vs = .string TX ∧ Hid (TX.data.toList = txL S0 AH ((srt (fdL L)).take j)) ∧ TX.size ≤ 1048600 + j * 70000 ∧ Hid (Below w4.heap.size w4 wr2)) (fun _ iv _ => k - (intOf iv).toNat)
      case atStart => exact ⟨0, S0, rfl, Nat.zero_le _, rfl, by unfold Hid txL; simp, by omega, B50⟩
      case round =>
        obtain ⟨j, TX, rfl, hj, rfl, TJ, hTX, B5⟩ := hrel
        by_cases hjk : j < k
        · have hji : (j : Int) < (k : Int) := by omega
          have hjo : j < out.length := by omega
          have hsl : (srt (fdL L)).length = k := by unfold srt; rw [List.length_mergeSort, fdL_len]; exact HNL.out
          have hjs : j < (srt (fdL L)).length := by omega
          have heq : out[j].data.toList = (srt (fdL L))[j] := by
            have h1 : (out.map (·.data.toList))[j]? = (srt (fdL L))[j]? := by rw [HS4.out]
            rw [List.getElem?_eq_getElem (by rw [List.length_map]; exact hjo), List.getElem?_eq_getElem hjs, List.getElem_map] at h1
            exact Option.some.inj h1
          have hdz : out[j].size ≤ 65535 := by
            have h1 : (srt (fdL L))[j] ∈ fdL L := (List.mergeSort_perm _ _).mem_iff.1 (List.getElem_mem hjs)
            obtain ⟨r, hr, h2⟩ := List.mem_map.1 h1
            have h3 := foldD_size (HZ.out r hr).2
            have h4 : out[j].size = out[j].data.toList.length := by rw [Array.length_toList]; rfl
            rw [h4, heq, ← h2, Array.length_toList]
            exact h3
          obtain ⟨go, hpo⟩ : ∃ go, po = some ⟨go, 0, none⟩ := by
            rcases hsh with ⟨_, h⟩ | ⟨go, h, _⟩
            · omega
            · exact ⟨go, h⟩
          subst hpo
          have hcj : wr.cell? ⟨go, j, none⟩ = some (.string out[j]) := by
            have h1 := ownsRow_below HO4.out B5.out
            rw [h1.cellAt j (by omega), List.getElem?_map, List.getElem?_eq_getElem hjo]
            rfl
          have HTX := hide' (txL_snoc S0 AH (srt (fdL L)) j hjs)
          rw [← heq] at HTX
          obtain ⟨Dk, hDk⟩ : ∃ Dk, out[j] = Dk := ⟨_, rfl⟩
          rw [hDk] at hcj hdz HTX
          clear heq hDk hjs hsl
          obtain ⟨N2, hN2⟩ : ∃ N2, nB t0 2 = N2 := ⟨_, rfl⟩
          obtain ⟨NL, hNL⟩ : ∃ NL, nB Dk.size 2 = NL := ⟨_, rfl⟩
          have z1 : N2.size = 2 := by rw [← hN2, nB_size]
          have z2 : NL.size = 2 := by rw [← hNL, nB_size]
          have z3 : (⟨#[0, 1]⟩ : ByteArray).size = 2 := rfl
          have HY1 := hide' (fun W => refBytes_any 2 t0 W (by omega) (by omega))
          have HY2 := hide' (fun W => refBytes_any 2 Dk.size W (by omega) (by omega))
          rw [hN2] at HY1
          rw [hNL] at HY2
          have HNE : Hid (AH = OW ++ N2 ++ (⟨#[0, 1]⟩ : ByteArray) ++ p3 ∧ NL = nB Dk.size 2) := by unfold Hid; rw [HAH.out, hN2, hNL]; exact ⟨rfl, rfl⟩
          have s1 : ∀ W : World, (Op.stringOp .add OW N2).run Tryz.prog W = .ok (.string (OW ++ N2)) W := fun W => run_string_add_sum W _ _ (by omega)
          have s2 : ∀ W : World, (Op.stringOp .add (OW ++ N2) (⟨#[0, 1]⟩ : ByteArray)).run Tryz.prog W = .ok (.string (OW ++ N2 ++ (⟨#[0, 1]⟩ : ByteArray))) W := fun W => run_string_add_sum W _ _ (by simp only [ByteArray.size_append]; omega)
          have s3 : ∀ W : World, (Op.stringOp .add (OW ++ N2 ++ (⟨#[0, 1]⟩ : ByteArray)) p3).run Tryz.prog W = .ok (.string (OW ++ N2 ++ (⟨#[0, 1]⟩ : ByteArray) ++ p3)) W := fun W => run_string_add_sum W _ _ (by simp only [ByteArray.size_append]; omega)
          have s4 : ∀ W : World, (Op.stringOp .add (OW ++ N2 ++ (⟨#[0, 1]⟩ : ByteArray) ++ p3) NL).run Tryz.prog W = .ok (.string (OW ++ N2 ++ (⟨#[0, 1]⟩ : ByteArray) ++ p3 ++ NL)) W := fun W => run_string_add_sum W _ _ (by simp only [ByteArray.size_append]; omega)
          have s5 : ∀ W : World, (Op.stringOp .add (OW ++ N2 ++ (⟨#[0, 1]⟩ : ByteArray) ++ p3 ++ NL) Dk).run Tryz.prog W = .ok (.string (OW ++ N2 ++ (⟨#[0, 1]⟩ : ByteArray) ++ p3 ++ NL ++ Dk)) W := fun W => run_string_add_sum W _ _ (by simp only [ByteArray.size_append]; omega)
          have s6 : ∀ W : World, (Op.stringOp .add TX (OW ++ N2 ++ (⟨#[0, 1]⟩ : ByteArray) ++ p3 ++ NL ++ Dk)).run Tryz.prog W = .ok (.string (TX ++ (OW ++ N2 ++ (⟨#[0, 1]⟩ : ByteArray) ++ p3 ++ NL ++ Dk))) W := fun W => run_string_add_sum W _ _ (by simp only [ByteArray.size_append]; omega)
          have HSZ : Hid ((TX ++ (OW ++ N2 ++ (⟨#[0, 1]⟩ : ByteArray) ++ p3 ++ NL ++ Dk)).size ≤ 1048600 + (j + 1) * 70000) := by unfold Hid; simp only [ByteArray.size_append]; omega
          have QF : Hid (∀ V : World, Below w4.heap.size w4 V → V.cell? ⟨g, off + 1, none⟩ = some (.int .i64 (t0 : Int)) ∧ V.cell? ⟨gp, op + 3, none⟩ = some (.string p3)) := fun V hb => by
            have hbw := HB4.out.trans (hb.mono HB4.out.size)
            have h0 : 0 < L.length := by rw [HNL.out]; exact hn
            obtain ⟨g', off', hpp, hg, _, u1, -⟩ := (rsAt_below7 HAT.out hbw) 0 h0
            injection hpp with hpp
            injection hpp with hp1 hp2
            subst hp1
            subst hp2
            rw [Nat.zero_mul, Nat.add_zero, hdR_eq h0, HT0.out] at u1
            exact ⟨u1, by rw [hbw.cell (p := ⟨gp, op + 3, none⟩) HP3.out.1]; exact HP3.out.2⟩
          clear hN2 hNL z1 z2 z3 hdz hjo
          obtain ⟨u1, u2⟩ := QF.out _ B5.out
          go_wp2_with fail
          refine wp_region_held_drew (S := fun V => V.cell? ⟨g, off + 1, none⟩ = some (.int .i64 (t0 : Int)) ∧ V.cell? ⟨gp, op + 3, none⟩ = some (.string p3)) (by kernel_rfl) ?_ (fun hHeld => ?_)
          · (try dsimp only); go_keep
          refine takeD 0 (some 84) (.string TX) rfl rfl (by kernel_rfl) (by kernel_rfl) (by kernel_rfl) (fun _ _ _ h => h) (Or.inl ⟨by rfl, ?_⟩) (by assumption) ?_
          · intro w hSw; (try dsimp only at hSw); go_simp <;> (intros; omega)
          simp only [Act.put, List.setIfInBounds_toArray, List.set_cons_zero, List.set_cons_succ]
          refine takeD 1 (some 85) (.string OW) rfl rfl (by kernel_rfl) (by kernel_rfl) (by kernel_rfl) (fun _ _ _ h => h) (Or.inl ⟨by rfl, ?_⟩) (by assumption) ?_
          · intro w hSw; (try dsimp only at hSw); go_simp <;> (intros; omega)
          simp only [Act.put, List.setIfInBounds_toArray, List.set_cons_zero, List.set_cons_succ]
          refine takeD 2 (some 86) (.slice (some ⟨g, off, none⟩) k cap) rfl rfl (by kernel_rfl) (by kernel_rfl) (by kernel_rfl) (fun _ _ _ h => h) (Or.inl ⟨by rfl, ?_⟩) (by assumption) ?_
          · intro w hSw; (try dsimp only at hSw); go_simp <;> (intros; omega)
          simp only [Act.put, List.setIfInBounds_toArray, List.set_cons_zero, List.set_cons_succ]
          refine takeD 3 (some 87) (.pointer (some ⟨g, off, none⟩)) rfl rfl (by kernel_rfl) (by kernel_rfl) (by kernel_rfl) (fun _ _ _ h => h) (Or.inl ⟨by rfl, ?_⟩) (by assumption) ?_
          · intro w hSw; (try dsimp only at hSw); go_simp <;> (intros; omega)
          simp only [Act.put, List.setIfInBounds_toArray, List.set_cons_zero, List.set_cons_succ]
          refine takeD 4 (some 88) (.pointer (some ⟨g, off + 1, none⟩)) rfl rfl (by kernel_rfl) (by kernel_rfl) (by kernel_rfl) (fun _ _ _ h => h) (Or.inl ⟨by rfl, ?_⟩) (by assumption) ?_
          · intro w hSw; (try dsimp only at hSw); go_simp <;> (intros; omega)
          simp only [Act.put, List.setIfInBounds_toArray, List.set_cons_zero, List.set_cons_succ]
          refine takeD 5 (some 89) (.int .i64 (t0 : Int)) rfl rfl (by kernel_rfl) (by kernel_rfl) (by kernel_rfl) (fun _ _ _ h => h) (Or.inl ⟨by rfl, ?_⟩) (by assumption) ?_
          · intro w hSw; (try dsimp only at hSw); go_simp <;> (intros; omega)
          simp only [Act.put, List.setIfInBounds_toArray, List.set_cons_zero, List.set_cons_succ]
          refine takeD 9 (some 93) (.slice (some ⟨gp, op, none⟩) np cp) rfl rfl (by kernel_rfl) (by kernel_rfl) (by kernel_rfl) (fun _ _ _ h => h) (Or.inl ⟨by rfl, ?_⟩) (by assumption) ?_
          · intro w hSw; (try dsimp only at hSw); go_simp <;> (intros; omega)
          simp only [Act.put, List.setIfInBounds_toArray, List.set_cons_zero, List.set_cons_succ]
          refine takeD 10 (some 94) (.pointer (some ⟨gp, op + 3, none⟩)) rfl rfl (by kernel_rfl) (by kernel_rfl) (by kernel_rfl) (fun _ _ _ h => h) (Or.inl ⟨by rfl, ?_⟩) (by assumption) ?_
          · intro w hSw; (try dsimp only at hSw); go_simp <;> (intros; omega)
          simp only [Act.put, List.setIfInBounds_toArray, List.set_cons_zero, List.set_cons_succ]
          refine takeD 11 (some 95) (.string p3) rfl rfl (by kernel_rfl) (by kernel_rfl) (by kernel_rfl) (fun _ _ _ h => h) (Or.inl ⟨by rfl, ?_⟩) (by assumption) ?_
          · intro w hSw; (try dsimp only at hSw); go_simp <;> (intros; omega)
          simp only [Act.put, List.setIfInBounds_toArray, List.set_cons_zero, List.set_cons_succ]
          refine takeD 13 (some 97) (.string Dk) rfl rfl (by kernel_rfl) (by kernel_rfl) (by kernel_rfl) (fun _ _ _ h => h) (Or.inl ⟨by rfl, ?_⟩) (by assumption) ?_
          · intro w hSw; (try dsimp only at hSw); go_simp <;> (intros; omega)
          simp only [Act.put, List.setIfInBounds_toArray, List.set_cons_zero, List.set_cons_succ]
          refine takeD 14 (some 98) (.int .i64 (Dk.size : Int)) rfl rfl (by kernel_rfl) (by kernel_rfl) (by kernel_rfl) (fun _ _ _ h => h) (Or.inl ⟨by rfl, ?_⟩) (by assumption) ?_
          · intro w hSw; (try dsimp only at hSw); go_simp <;> (intros; omega)
          simp only [Act.put, List.setIfInBounds_toArray, List.set_cons_zero, List.set_cons_succ]
          refine takeD 17 (some 101) (.string Dk) rfl rfl (by kernel_rfl) (by kernel_rfl) (by kernel_rfl) (fun _ _ _ h => h) (Or.inl ⟨by rfl, ?_⟩) (by assumption) ?_
          · intro w hSw; (try dsimp only at hSw); go_simp <;> (intros; omega)
          simp only [Act.put, List.setIfInBounds_toArray, List.set_cons_zero, List.set_cons_succ]
          refine wpAnyH_ready (rs := [6]) (by kernel_rfl) (by simp) ?_
          refine AllReadyH.cons rfl (fun K hK => ?_) AllReadyH.nil
          go_simp
          go_at_call 37; refine (HY1.out _).mono ?_; rintro r w6 ⟨rfl, hB⟩; have B6 := hide' (show Below w4.heap.size w4 w6 by first | exact bstep B5.out hB B5.out.size | exact bstep B5.out.drew hB B5.out.size); clear hB
          go_wp2_with fail
          refine hK.out _ _ (QF.out _ B6.out) (fun hHeld => ?_)
          clear hK K
          try simp only [Act.put, List.setIfInBounds_toArray, List.set_cons_zero, List.set_cons_succ]
          refine takeD 7 (some 91) (.string (OW ++ N2)) rfl rfl (by kernel_rfl) (by kernel_rfl) (by kernel_rfl) (fun _ _ _ h => h) (Or.inl ⟨by rfl, ?_⟩) (by assumption) ?_
          · intro w hSw; (try dsimp only at hSw); go_simp <;> (intros; omega)
          simp only [Act.put, List.setIfInBounds_toArray, List.set_cons_zero, List.set_cons_succ]
          refine takeD 8 (some 92) (.string (OW ++ N2 ++ (⟨#[0, 1]⟩ : ByteArray))) rfl rfl (by kernel_rfl) (by kernel_rfl) (by kernel_rfl) (fun _ _ _ h => h) (Or.inl ⟨by rfl, ?_⟩) (by assumption) ?_
          · intro w hSw; (try dsimp only at hSw); go_simp <;> (intros; omega)
          simp only [Act.put, List.setIfInBounds_toArray, List.set_cons_zero, List.set_cons_succ]
          refine takeD 12 (some 96) (.string (OW ++ N2 ++ (⟨#[0, 1]⟩ : ByteArray) ++ p3)) rfl rfl (by kernel_rfl) (by kernel_rfl) (by kernel_rfl) (fun _ _ _ h => h) (Or.inl ⟨by rfl, ?_⟩) (by assumption) ?_
          · intro w hSw; (try dsimp only at hSw); go_simp <;> (intros; omega)
          simp only [Act.put, List.setIfInBounds_toArray, List.set_cons_zero, List.set_cons_succ]
          refine wpAnyH_ready (rs := [15]) (by kernel_rfl) (by simp) ?_
          refine AllReadyH.cons rfl (fun K hK => ?_) AllReadyH.nil
          go_simp
          go_at_call 37; refine (HY2.out _).mono ?_; rintro r w7 ⟨rfl, hB⟩; have B7 := hide' (show Below w4.heap.size w4 w7 by first | exact bstep B6.out hB B6.out.size | exact bstep B6.out.drew hB B6.out.size); clear hB
          go_wp2_with fail
          refine hK.out _ _ (QF.out _ B7.out) (fun hHeld => ?_)
          clear hK K
          try simp only [Act.put, List.setIfInBounds_toArray, List.set_cons_zero, List.set_cons_succ]
          refine takeD 16 (some 100) (.string (OW ++ N2 ++ (⟨#[0, 1]⟩ : ByteArray) ++ p3 ++ NL)) rfl rfl (by kernel_rfl) (by kernel_rfl) (by kernel_rfl) (fun _ _ _ h => h) (Or.inl ⟨by rfl, ?_⟩) (by assumption) ?_
          · intro w hSw; (try dsimp only at hSw); go_simp <;> (intros; omega)
          simp only [Act.put, List.setIfInBounds_toArray, List.set_cons_zero, List.set_cons_succ]
          refine takeD 18 (some 102) (.string (OW ++ N2 ++ (⟨#[0, 1]⟩ : ByteArray) ++ p3 ++ NL ++ Dk)) rfl rfl (by kernel_rfl) (by kernel_rfl) (by kernel_rfl) (fun _ _ _ h => h) (Or.inl ⟨by rfl, ?_⟩) (by assumption) ?_
          · intro w hSw; (try dsimp only at hSw); go_simp <;> (intros; omega)
          simp only [Act.put, List.setIfInBounds_toArray, List.set_cons_zero, List.set_cons_succ]
          refine takeD 19 (some 103) (.string (TX ++ (OW ++ N2 ++ (⟨#[0, 1]⟩ : ByteArray) ++ p3 ++ NL ++ Dk))) rfl rfl (by kernel_rfl) (by kernel_rfl) (by kernel_rfl) (fun _ _ _ h => h) (Or.inl ⟨by rfl, ?_⟩) (by assumption) ?_
          · intro w hSw; (try dsimp only at hSw); go_simp <;> (intros; omega)
          simp only [Act.put, List.setIfInBounds_toArray, List.set_cons_zero, List.set_cons_succ]
          refine takeD 20 (some 5) (.string (TX ++ (OW ++ N2 ++ (⟨#[0, 1]⟩ : ByteArray) ++ p3 ++ NL ++ Dk))) rfl rfl (by kernel_rfl) (by kernel_rfl) (by kernel_rfl) (fun _ _ _ h => h) (Or.inl ⟨by rfl, ?_⟩) (by assumption) ?_
          · intro w hSw; (try dsimp only at hSw); go_simp <;> (intros; omega)
          simp only [Act.put, List.setIfInBounds_toArray, List.set_cons_zero, List.set_cons_succ]
          refine wpAnyH_done (by kernel_rfl) ?_ _
          go_wp2_with fail
          refine ⟨⟨j + 1, _, by go_num, by omega, rfl, ?_, HSZ.out, by first | exact B7 | exact B7.out.drew⟩, by simp [intOf]; omega⟩
          unfold Hid
          rw [HTX.out, ← TJ.out]
          unfold lineB
          have hdl : Dk.data.toList.length = Dk.size := by rw [Array.length_toList]; rfl
          rw [HNE.out.1, hdl, ← HNE.out.2]
          simp [ByteArray.data_append]
        · obtain rfl : j = k := by omega
          have hall2 : (srt (fdL L)).take j = srt (fdL L) := List.take_of_length_le (by unfold srt; rw [List.length_mergeSort, fdL_len, HNL.out]; exact Nat.le_refl _)
          rw [hall2] at TJ
          go_wp2_with fail
          go_ret
          refine ⟨?_, HB4.out.trans (B5.out.mono HB4.out.size)⟩
          rw [← TJ.out]
          rfl
end Go.Proofs.YtennkhdhnbdbeaaGreat

/-
  gazetteerref4.Signed. (The verifier's own text.)
-/
namespace Go.Proofs.YtennkhdhnbdbeaaGreat
set_option linter.unusedVariables false
set_option linter.unusedSimpArgs false
open Go.RowKit Go.Shelf Go.Sort Go.Proofs.YtennkhdhnbdbeaaGreat.Nm

/-- the owner as the reference signs it -/
def owR (k : Int) (n : ByteArray) : ByteArray := if k < lbI (foldB n) then starB (tailB (foldB n) k) else foldB n
set_option maxRecDepth 100000 in
set_option maxHeartbeats 8000000 in
/-- gazetteerref4.Signed -/
theorem refSigned_any (L : List Rn) (g off nl cap gp op cp : Nat) (t0 k2 : Nat) (p0 p1 p2 p3 p4 p5 p6 p7 AH : ByteArray) (w : World) (hn : 0 < nl) (hnl : nl ≤ 1048576) (HNL : Hid (L.length = nl)) (HAT : Hid (RsAt w (some ⟨g, off, none⟩) L)) (HPP : Hid (gp < w.heap.size ∧ w.cell? ⟨gp, op, none⟩ = some (.string p0) ∧ w.cell? ⟨gp, op + 1, none⟩ = some (.string p1) ∧ w.cell? ⟨gp, op + 2, none⟩ = some (.string p2) ∧ w.cell? ⟨gp, op + 3, none⟩ = some (.string p3) ∧ w.cell? ⟨gp, op + 4, none⟩ = some (.string p4) ∧ w.cell? ⟨gp, op + 5, none⟩ = some (.string p5) ∧ w.cell? ⟨gp, op + 6, none⟩ = some (.string p6) ∧ w.cell? ⟨gp, op + 7, none⟩ = some (.string p7))) (HT0 : Hid ((hdR L).t = (t0 : Int))) (ht0 : t0 < 65536) (HZ : Hid (∀ r ∈ L, r.d.size ≤ 9223372036854775807 ∧ errD r.t r.d = 0)) (HN : Hid (isN (hdR L).o = true))
    (hsz : p0.size ≤ 8 ∧ p1.size ≤ 8 ∧ p2.size ≤ 8 ∧ p3.size ≤ 8 ∧ p4.size ≤ 8 ∧ p5.size ≤ 8 ∧ p6.size ≤ 8) (hz2 : p2.size ≤ 4) (hz3 : p3.size ≤ 4) (hz7 : p7.size ≤ 1048576) (HK2 : Hid (vN p2 p2.size = k2)) (HAH : Hid (AH = owR k2 (hdR L).o ++ nB t0 2 ++ ⟨#[0, 1]⟩ ++ p3)) :
    Calls Tryz.prog 44 #[.slice (some ⟨gp, op, none⟩) 8 cp, .slice (some ⟨g, off, none⟩) nl cap] w fun r w' => r = .returned (.string ⟨(txL (p0 ++ p1 ++ p2 ++ p3 ++ p4 ++ p5 ++ p6 ++ foldB p7) AH (srt (fdL L))).toArray⟩) ∧ Below w.heap.size w w' := by
  have h0 : 0 < L.length := by rw [HNL.out]; exact hn
  have hni : (0 : Int) < (nl : Int) := by omega
  have hoN := HN.out
  have hoz : (hdR L).o.size ≤ 255 := ((isN_iff _).1 hoN).1
  have HF7 := hide' (fun W => foldName_any p7 W hz7)
  have HFO := hide' (fun W => foldName_any (hdR L).o W (by omega))
  have hF7z := foldB_small p7
  have hFOz := foldB_small (hdR L).o
  have HVA := hide' (fun W => refValue4_any p2 W hz2)
  have HSL := hide' (fun W => starless_any (foldB (hdR L).o) W (by omega))
  have HTL := hide' (fun W => refTail_any (foldB (hdR L).o) (k2 : Int) W (by omega))
  have htz := tailB_size (foldB (hdR L).o) (k2 : Int)
  have HSA := hide' (fun W => refStar_any (tailB (foldB (hdR L).o) (k2 : Int)) W (by omega))
  have hsz2 : (starB (tailB (foldB (hdR L).o) (k2 : Int))).size ≤ 255 := by
    unfold starB
    split
    · rename_i h; rw [ByteArray.size_append]; have h2 : (⟨#[1, 42]⟩ : ByteArray).size = 2 := rfl; omega
    · simp
  rw [HK2.out] at HVA
  have HOE : Hid (owR k2 (hdR L).o = if (k2 : Int) < lbI (foldB (hdR L).o) then starB (tailB (foldB (hdR L).o) k2) else foldB (hdR L).o) := rfl
  rw [HOE.out] at HAH
  have HFI : Hid (∀ V : World, Below w.heap.size w V → V.cell? ⟨g, off, none⟩ = some (.string (hdR L).o)) := fun V hb => by
    obtain ⟨g', off', hpp, hg, u0, -⟩ := (rsAt_below7 HAT.out hb) 0 h0
    injection hpp with hpp
    injection hpp with hp1 hp2
    subst hp1
    subst hp2
    rw [Nat.zero_mul, Nat.add_zero, hdR_eq h0] at u0
    exact u0
  have QF : Hid (∀ V : World, Below w.heap.size w V → V.cell? ⟨gp, op, none⟩ = some (.string p0) ∧ V.cell? ⟨gp, op + 1, none⟩ = some (.string p1) ∧ V.cell? ⟨gp, op + 2, none⟩ = some (.string p2) ∧ V.cell? ⟨gp, op + 3, none⟩ = some (.string p3) ∧ V.cell? ⟨gp, op + 4, none⟩ = some (.string p4) ∧ V.cell? ⟨gp, op + 5, none⟩ = some (.string p5) ∧ V.cell? ⟨gp, op + 6, none⟩ = some (.string p6) ∧ V.cell? ⟨gp, op + 7, none⟩ = some (.string p7)) := fun V hb => by
    obtain ⟨hg, c0, c1, c2, c3, c4, c5, c6, c7⟩ := HPP.out
    exact ⟨by rw [hb.cell (p := ⟨gp, op, none⟩) hg]; exact c0, by rw [hb.cell (p := ⟨gp, op + 1, none⟩) hg]; exact c1, by rw [hb.cell (p := ⟨gp, op + 2, none⟩) hg]; exact c2, by rw [hb.cell (p := ⟨gp, op + 3, none⟩) hg]; exact c3, by rw [hb.cell (p := ⟨gp, op + 4, none⟩) hg]; exact c4, by rw [hb.cell (p := ⟨gp, op + 5, none⟩) hg]; exact c5, by rw [hb.cell (p := ⟨gp, op + 6, none⟩) hg]; exact c6, by rw [hb.cell (p := ⟨gp, op + 7, none⟩) hg]; exact c7⟩
  have HTAIL := hide' (fun OW hOW (V : World) (HB0 : Hid (Below w.heap.size w V)) (hA : Hid (AH = OW ++ nB t0 2 ++ ⟨#[0, 1]⟩ ++ p3)) => signed_tail L g off nl cap gp op 8 cp t0 p3 (p0 ++ p1 ++ p2 ++ p3 ++ p4 ++ p5 ++ p6 ++ foldB p7) OW AH w V hn hnl (by omega) HNL HAT ⟨HPP.out.1, HPP.out.2.2.2.2.1⟩ HT0 ht0 HZ HB0 hA (by simp only [ByteArray.size_append]; omega) hOW hz3)
  generalize foldB p7 = F7 at *
  generalize (hdR L).o = o at *
  generalize foldB o = FO at *
  generalize lbI FO = lb at *
  generalize tailB FO (k2 : Int) = TL at *
  generalize starB TL = SA at *
  have s1 : ∀ W : World, (Op.stringOp .add (p0) p1).run Tryz.prog W = .ok (.string (p0 ++ p1)) W := fun W => run_string_add_sum W _ _ (by first | omega | (simp only [ByteArray.size_append]; omega))
  have s2 : ∀ W : World, (Op.stringOp .add (p0 ++ p1) p2).run Tryz.prog W = .ok (.string (p0 ++ p1 ++ p2)) W := fun W => run_string_add_sum W _ _ (by first | omega | (simp only [ByteArray.size_append]; omega))
  have s3 : ∀ W : World, (Op.stringOp .add (p0 ++ p1 ++ p2) p3).run Tryz.prog W = .ok (.string (p0 ++ p1 ++ p2 ++ p3)) W := fun W => run_string_add_sum W _ _ (by first | omega | (simp only [ByteArray.size_append]; omega))
  have s4 : ∀ W : World, (Op.stringOp .add (p0 ++ p1 ++ p2 ++ p3) p4).run Tryz.prog W = .ok (.string (p0 ++ p1 ++ p2 ++ p3 ++ p4)) W := fun W => run_string_add_sum W _ _ (by first | omega | (simp only [ByteArray.size_append]; omega))
  have s5 : ∀ W : World, (Op.stringOp .add (p0 ++ p1 ++ p2 ++ p3 ++ p4) p5).run Tryz.prog W = .ok (.string (p0 ++ p1 ++ p2 ++ p3 ++ p4 ++ p5)) W := fun W => run_string_add_sum W _ _ (by first | omega | (simp only [ByteArray.size_append]; omega))
  have s6 : ∀ W : World, (Op.stringOp .add (p0 ++ p1 ++ p2 ++ p3 ++ p4 ++ p5) p6).run Tryz.prog W = .ok (.string (p0 ++ p1 ++ p2 ++ p3 ++ p4 ++ p5 ++ p6)) W := fun W => run_string_add_sum W _ _ (by first | omega | (simp only [ByteArray.size_append]; omega))
  have s7 : ∀ W : World, (Op.stringOp .add (p0 ++ p1 ++ p2 ++ p3 ++ p4 ++ p5 ++ p6) F7).run Tryz.prog W = .ok (.string (p0 ++ p1 ++ p2 ++ p3 ++ p4 ++ p5 ++ p6 ++ F7)) W := fun W => run_string_add_sum W _ _ (by first | omega | (simp only [ByteArray.size_append]; omega))
  have B0 : Hid (Below w.heap.size w w) := Below.refl _ _
  obtain ⟨c0, c1, c2, c3, c4, c5, c6, c7⟩ := QF.out _ B0.out
  have f0 := HFI.out _ B0.out
  clear hsz HT0 HAT HZ hoN hoz hF7z hz7
  by_cases hlt : (k2 : Int) < lb
  · rw [if_pos hlt] at HAH
    go_enter Tryz.func44, Tryz.ntmps44
    go_wp2_with fail
    refine wp_region_held_drew (S := fun V => V.cell? ⟨gp, op, none⟩ = some (.string p0) ∧ V.cell? ⟨gp, op + 1, none⟩ = some (.string p1) ∧ V.cell? ⟨gp, op + 2, none⟩ = some (.string p2) ∧ V.cell? ⟨gp, op + 3, none⟩ = some (.string p3) ∧ V.cell? ⟨gp, op + 4, none⟩ = some (.string p4) ∧ V.cell? ⟨gp, op + 5, none⟩ = some (.string p5) ∧ V.cell? ⟨gp, op + 6, none⟩ = some (.string p6) ∧ V.cell? ⟨gp, op + 7, none⟩ = some (.string p7)) (by kernel_rfl) ?_ (fun hHeld => ?_)
    · (try dsimp only); go_keep
    refine takeD 0 (some 13) (.slice (some ⟨gp, op, none⟩) 8 cp) rfl rfl (by kernel_rfl) (by kernel_rfl) (by kernel_rfl) (fun _ _ _ h => h) (Or.inl ⟨by rfl, ?_⟩) (by assumption) ?_
    · intro w hSw; (try dsimp only at hSw); go_simp <;> (intros; omega)
    simp only [Act.put, List.setIfInBounds_toArray, List.set_cons_zero, List.set_cons_succ]
    refine takeD 1 (some 14) (.pointer (some ⟨gp, op, none⟩)) rfl rfl (by kernel_rfl) (by kernel_rfl) (by kernel_rfl) (fun _ _ _ h => h) (Or.inl ⟨by rfl, ?_⟩) (by assumption) ?_
    · intro w hSw; (try dsimp only at hSw); go_simp <;> (intros; omega)
    simp only [Act.put, List.setIfInBounds_toArray, List.set_cons_zero, List.set_cons_succ]
    refine takeD 2 (some 15) (.string p0) rfl rfl (by kernel_rfl) (by kernel_rfl) (by kernel_rfl) (fun _ _ _ h => h) (Or.inl ⟨by rfl, ?_⟩) (by assumption) ?_
    · intro w hSw; (try dsimp only at hSw); go_simp <;> (intros; omega)
    simp only [Act.put, List.setIfInBounds_toArray, List.set_cons_zero, List.set_cons_succ]
    refine takeD 3 (some 16) (.slice (some ⟨gp, op, none⟩) 8 cp) rfl rfl (by kernel_rfl) (by kernel_rfl) (by kernel_rfl) (fun _ _ _ h => h) (Or.inl ⟨by rfl, ?_⟩) (by assumption) ?_
    · intro w hSw; (try dsimp only at hSw); go_simp <;> (intros; omega)
    simp only [Act.put, List.setIfInBounds_toArray, List.set_cons_zero, List.set_cons_succ]
    refine takeD 4 (some 17) (.pointer (some ⟨gp, op + 1, none⟩)) rfl rfl (by kernel_rfl) (by kernel_rfl) (by kernel_rfl) (fun _ _ _ h => h) (Or.inl ⟨by rfl, ?_⟩) (by assumption) ?_
    · intro w hSw; (try dsimp only at hSw); go_simp <;> (intros; omega)
    simp only [Act.put, List.setIfInBounds_toArray, List.set_cons_zero, List.set_cons_succ]
    refine takeD 5 (some 18) (.string p1) rfl rfl (by kernel_rfl) (by kernel_rfl) (by kernel_rfl) (fun _ _ _ h => h) (Or.inl ⟨by rfl, ?_⟩) (by assumption) ?_
    · intro w hSw; (try dsimp only at hSw); go_simp <;> (intros; omega)
    simp only [Act.put, List.setIfInBounds_toArray, List.set_cons_zero, List.set_cons_succ]
    refine takeD 6 (some 19) (.string (p0 ++ p1)) rfl rfl (by kernel_rfl) (by kernel_rfl) (by kernel_rfl) (fun _ _ _ h => h) (Or.inl ⟨by rfl, ?_⟩) (by assumption) ?_
    · intro w hSw; (try dsimp only at hSw); go_simp <;> (intros; omega)
    simp only [Act.put, List.setIfInBounds_toArray, List.set_cons_zero, List.set_cons_succ]
    refine takeD 7 (some 20) (.slice (some ⟨gp, op, none⟩) 8 cp) rfl rfl (by kernel_rfl) (by kernel_rfl) (by kernel_rfl) (fun _ _ _ h => h) (Or.inl ⟨by rfl, ?_⟩) (by assumption) ?_
    · intro w hSw; (try dsimp only at hSw); go_simp <;> (intros; omega)
    simp only [Act.put, List.setIfInBounds_toArray, List.set_cons_zero, List.set_cons_succ]
    refine takeD 8 (some 21) (.pointer (some ⟨gp, op + 2, none⟩)) rfl rfl (by kernel_rfl) (by kernel_rfl) (by kernel_rfl) (fun _ _ _ h => h) (Or.inl ⟨by rfl, ?_⟩) (by assumption) ?_
    · intro w hSw; (try dsimp only at hSw); go_simp <;> (intros; omega)
    simp only [Act.put, List.setIfInBounds_toArray, List.set_cons_zero, List.set_cons_succ]
    refine takeD 9 (some 22) (.string p2) rfl rfl (by kernel_rfl) (by kernel_rfl) (by kernel_rfl) (fun _ _ _ h => h) (Or.inl ⟨by rfl, ?_⟩) (by assumption) ?_
    · intro w hSw; (try dsimp only at hSw); go_simp <;> (intros; omega)
    simp only [Act.put, List.setIfInBounds_toArray, List.set_cons_zero, List.set_cons_succ]
    refine takeD 10 (some 23) (.string (p0 ++ p1 ++ p2)) rfl rfl (by kernel_rfl) (by kernel_rfl) (by kernel_rfl) (fun _ _ _ h => h) (Or.inl ⟨by rfl, ?_⟩) (by assumption) ?_
    · intro w hSw; (try dsimp only at hSw); go_simp <;> (intros; omega)
    simp only [Act.put, List.setIfInBounds_toArray, List.set_cons_zero, List.set_cons_succ]
    refine takeD 11 (some 24) (.slice (some ⟨gp, op, none⟩) 8 cp) rfl rfl (by kernel_rfl) (by kernel_rfl) (by kernel_rfl) (fun _ _ _ h => h) (Or.inl ⟨by rfl, ?_⟩) (by assumption) ?_
    · intro w hSw; (try dsimp only at hSw); go_simp <;> (intros; omega)
    simp only [Act.put, List.setIfInBounds_toArray, List.set_cons_zero, List.set_cons_succ]
    refine takeD 12 (some 25) (.pointer (some ⟨gp, op + 3, none⟩)) rfl rfl (by kernel_rfl) (by kernel_rfl) (by kernel_rfl) (fun _ _ _ h => h) (Or.inl ⟨by rfl, ?_⟩) (by assumption) ?_
    · intro w hSw; (try dsimp only at hSw); go_simp <;> (intros; omega)
    simp only [Act.put, List.setIfInBounds_toArray, List.set_cons_zero, List.set_cons_succ]
    refine takeD 13 (some 26) (.string p3) rfl rfl (by kernel_rfl) (by kernel_rfl) (by kernel_rfl) (fun _ _ _ h => h) (Or.inl ⟨by rfl, ?_⟩) (by assumption) ?_
    · intro w hSw; (try dsimp only at hSw); go_simp <;> (intros; omega)
    simp only [Act.put, List.setIfInBounds_toArray, List.set_cons_zero, List.set_cons_succ]
    refine takeD 14 (some 27) (.string (p0 ++ p1 ++ p2 ++ p3)) rfl rfl (by kernel_rfl) (by kernel_rfl) (by kernel_rfl) (fun _ _ _ h => h) (Or.inl ⟨by rfl, ?_⟩) (by assumption) ?_
    · intro w hSw; (try dsimp only at hSw); go_simp <;> (intros; omega)
    simp only [Act.put, List.setIfInBounds_toArray, List.set_cons_zero, List.set_cons_succ]
    refine takeD 15 (some 28) (.slice (some ⟨gp, op, none⟩) 8 cp) rfl rfl (by kernel_rfl) (by kernel_rfl) (by kernel_rfl) (fun _ _ _ h => h) (Or.inl ⟨by rfl, ?_⟩) (by assumption) ?_
    · intro w hSw; (try dsimp only at hSw); go_simp <;> (intros; omega)
    simp only [Act.put, List.setIfInBounds_toArray, List.set_cons_zero, List.set_cons_succ]
    refine takeD 16 (some 29) (.pointer (some ⟨gp, op + 4, none⟩)) rfl rfl (by kernel_rfl) (by kernel_rfl) (by kernel_rfl) (fun _ _ _ h => h) (Or.inl ⟨by rfl, ?_⟩) (by assumption) ?_
    · intro w hSw; (try dsimp only at hSw); go_simp <;> (intros; omega)
    simp only [Act.put, List.setIfInBounds_toArray, List.set_cons_zero, List.set_cons_succ]
    refine takeD 17 (some 30) (.string p4) rfl rfl (by kernel_rfl) (by kernel_rfl) (by kernel_rfl) (fun _ _ _ h => h) (Or.inl ⟨by rfl, ?_⟩) (by assumption) ?_
    · intro w hSw; (try dsimp only at hSw); go_simp <;> (intros; omega)
    simp only [Act.put, List.setIfInBounds_toArray, List.set_cons_zero, List.set_cons_succ]
    refine takeD 18 (some 31) (.string (p0 ++ p1 ++ p2 ++ p3 ++ p4)) rfl rfl (by kernel_rfl) (by kernel_rfl) (by kernel_rfl) (fun _ _ _ h => h) (Or.inl ⟨by rfl, ?_⟩) (by assumption) ?_
    · intro w hSw; (try dsimp only at hSw); go_simp <;> (intros; omega)
    simp only [Act.put, List.setIfInBounds_toArray, List.set_cons_zero, List.set_cons_succ]
    refine takeD 19 (some 32) (.slice (some ⟨gp, op, none⟩) 8 cp) rfl rfl (by kernel_rfl) (by kernel_rfl) (by kernel_rfl) (fun _ _ _ h => h) (Or.inl ⟨by rfl, ?_⟩) (by assumption) ?_
    · intro w hSw; (try dsimp only at hSw); go_simp <;> (intros; omega)
    simp only [Act.put, List.setIfInBounds_toArray, List.set_cons_zero, List.set_cons_succ]
    refine takeD 20 (some 33) (.pointer (some ⟨gp, op + 5, none⟩)) rfl rfl (by kernel_rfl) (by kernel_rfl) (by kernel_rfl) (fun _ _ _ h => h) (Or.inl ⟨by rfl, ?_⟩) (by assumption) ?_
    · intro w hSw; (try dsimp only at hSw); go_simp <;> (intros; omega)
    simp only [Act.put, List.setIfInBounds_toArray, List.set_cons_zero, List.set_cons_succ]
    refine takeD 21 (some 34) (.string p5) rfl rfl (by kernel_rfl) (by kernel_rfl) (by kernel_rfl) (fun _ _ _ h => h) (Or.inl ⟨by rfl, ?_⟩) (by assumption) ?_
    · intro w hSw; (try dsimp only at hSw); go_simp <;> (intros; omega)
    simp only [Act.put, List.setIfInBounds_toArray, List.set_cons_zero, List.set_cons_succ]
    refine takeD 22 (some 35) (.string (p0 ++ p1 ++ p2 ++ p3 ++ p4 ++ p5)) rfl rfl (by kernel_rfl) (by kernel_rfl) (by kernel_rfl) (fun _ _ _ h => h) (Or.inl ⟨by rfl, ?_⟩) (by assumption) ?_
    · intro w hSw; (try dsimp only at hSw); go_simp <;> (intros; omega)
    simp only [Act.put, List.setIfInBounds_toArray, List.set_cons_zero, List.set_cons_succ]
    refine takeD 23 (some 36) (.slice (some ⟨gp, op, none⟩) 8 cp) rfl rfl (by kernel_rfl) (by kernel_rfl) (by kernel_rfl) (fun _ _ _ h => h) (Or.inl ⟨by rfl, ?_⟩) (by assumption) ?_
    · intro w hSw; (try dsimp only at hSw); go_simp <;> (intros; omega)
    simp only [Act.put, List.setIfInBounds_toArray, List.set_cons_zero, List.set_cons_succ]
    refine takeD 24 (some 37) (.pointer (some ⟨gp, op + 6, none⟩)) rfl rfl (by kernel_rfl) (by kernel_rfl) (by kernel_rfl) (fun _ _ _ h => h) (Or.inl ⟨by rfl, ?_⟩) (by assumption) ?_
    · intro w hSw; (try dsimp only at hSw); go_simp <;> (intros; omega)
    simp only [Act.put, List.setIfInBounds_toArray, List.set_cons_zero, List.set_cons_succ]
    refine takeD 25 (some 38) (.string p6) rfl rfl (by kernel_rfl) (by kernel_rfl) (by kernel_rfl) (fun _ _ _ h => h) (Or.inl ⟨by rfl, ?_⟩) (by assumption) ?_
    · intro w hSw; (try dsimp only at hSw); go_simp <;> (intros; omega)
    simp only [Act.put, List.setIfInBounds_toArray, List.set_cons_zero, List.set_cons_succ]
    refine takeD 26 (some 39) (.string (p0 ++ p1 ++ p2 ++ p3 ++ p4 ++ p5 ++ p6)) rfl rfl (by kernel_rfl) (by kernel_rfl) (by kernel_rfl) (fun _ _ _ h => h) (Or.inl ⟨by rfl, ?_⟩) (by assumption) ?_
    · intro w hSw; (try dsimp only at hSw); go_simp <;> (intros; omega)
    simp only [Act.put, List.setIfInBounds_toArray, List.set_cons_zero, List.set_cons_succ]
    refine takeD 27 (some 40) (.slice (some ⟨gp, op, none⟩) 8 cp) rfl rfl (by kernel_rfl) (by kernel_rfl) (by kernel_rfl) (fun _ _ _ h => h) (Or.inl ⟨by rfl, ?_⟩) (by assumption) ?_
    · intro w hSw; (try dsimp only at hSw); go_simp <;> (intros; omega)
    simp only [Act.put, List.setIfInBounds_toArray, List.set_cons_zero, List.set_cons_succ]
    refine takeD 28 (some 41) (.pointer (some ⟨gp, op + 7, none⟩)) rfl rfl (by kernel_rfl) (by kernel_rfl) (by kernel_rfl) (fun _ _ _ h => h) (Or.inl ⟨by rfl, ?_⟩) (by assumption) ?_
    · intro w hSw; (try dsimp only at hSw); go_simp <;> (intros; omega)
    simp only [Act.put, List.setIfInBounds_toArray, List.set_cons_zero, List.set_cons_succ]
    refine takeD 29 (some 42) (.string p7) rfl rfl (by kernel_rfl) (by kernel_rfl) (by kernel_rfl) (fun _ _ _ h => h) (Or.inl ⟨by rfl, ?_⟩) (by assumption) ?_
    · intro w hSw; (try dsimp only at hSw); go_simp <;> (intros; omega)
    simp only [Act.put, List.setIfInBounds_toArray, List.set_cons_zero, List.set_cons_succ]
    refine wpAnyH_ready (rs := [30]) (by kernel_rfl) (by simp) ?_
    refine AllReadyH.cons rfl (fun K hK => ?_) AllReadyH.nil
    go_simp
    go_at_call 41; refine (HF7.out _).mono ?_; rintro r w1 ⟨rfl, hB⟩; have B1 := hide' (show Below w.heap.size w w1 by first | exact hB | exact bstep B0.out.drew hB B0.out.size); clear hB
    go_wp2_with fail
    refine hK.out _ _ (QF.out _ B1.out) (fun hHeld => ?_)
    clear hK K
    try simp only [Act.put, List.setIfInBounds_toArray, List.set_cons_zero, List.set_cons_succ]
    refine takeD 31 (some 44) (.string (p0 ++ p1 ++ p2 ++ p3 ++ p4 ++ p5 ++ p6 ++ F7)) rfl rfl (by kernel_rfl) (by kernel_rfl) (by kernel_rfl) (fun _ _ _ h => h) (Or.inl ⟨by rfl, ?_⟩) (by assumption) ?_
    · intro w hSw; (try dsimp only at hSw); go_simp <;> (intros; omega)
    simp only [Act.put, List.setIfInBounds_toArray, List.set_cons_zero, List.set_cons_succ]
    refine takeD 32 (some 5) (.string (p0 ++ p1 ++ p2 ++ p3 ++ p4 ++ p5 ++ p6 ++ F7)) rfl rfl (by kernel_rfl) (by kernel_rfl) (by kernel_rfl) (fun _ _ _ h => h) (Or.inl ⟨by rfl, ?_⟩) (by assumption) ?_
    · intro w hSw; (try dsimp only at hSw); go_simp <;> (intros; omega)
    simp only [Act.put, List.setIfInBounds_toArray, List.set_cons_zero, List.set_cons_succ]
    refine wpAnyH_done (by kernel_rfl) ?_ _
    clear c0 c1 c2 c3 c4 c5 c6 c7 f0
    obtain ⟨c0, c1, c2, c3, c4, c5, c6, c7⟩ := QF.out _ B1.out
    have f0 := HFI.out _ B1.out
    go_upto_region 6 with (first
      | (go_at_call 41; refine (HFO.out _).mono ?_; rintro r w2 ⟨rfl, hB⟩; have B2 := hide' (show Below w.heap.size w w2 by first | exact bstep B1.out hB B1.out.size | exact bstep B1.out.drew hB B1.out.size); clear hB c0 c1 c2 c3 c4 c5 c6 c7 f0; obtain ⟨c0, c1, c2, c3, c4, c5, c6, c7⟩ := QF.out _ B2.out)
      | (go_at_call 54; refine (HVA.out _).mono ?_; rintro r w3 ⟨rfl, hB⟩; have B3 := hide' (show Below w.heap.size w w3 by first | (rw [hB]; exact B2.out) | exact bstep B2.out hB B2.out.size); clear hB)
      | (go_at_call 38; refine (HSL.out _).mono ?_; rintro r w4 ⟨rfl, hB⟩; have B4 := hide' (bstep B3.out hB B3.out.size); clear hB)
      | (go_at_call 79; refine (HTL.out _).mono ?_; rintro r w5 ⟨rfl, hB⟩; have B5 := hide' (bstep B4.out hB B4.out.size); clear hB)
      | (go_at_call 84; refine (HSA.out _).mono ?_; rintro r w6 ⟨rfl, hB⟩; have B6 := hide' (bstep B5.out hB B5.out.size); clear hB))
    rename_i KK hKK
    have HKK := hide' hKK
    clear hKK
    go_wp2_with fail
    refine HKK.out _ _ ?_
    exact HTAIL.out SA hsz2 _ B6 HAH _ _ _ _ _ _ _ _ _ _ _ _ _ _ _ _ _ _ _ _ _ _ _ _ _ _ _ _ _ _ _ _ _ _ _ _ _ _ _ _ _ _ _ _ _ _ _ _ _ _ _ _ _ _ _ _ _ _ _ _ _ _ _ _ _ _ _ _ _ _ _ _ _ _ _ _ _ _ _ _ _ _ _ _ _ _ _ _ _ _ _ _ _ _ _ _ _ _ _ _ _
  · rw [if_neg hlt] at HAH
    go_enter Tryz.func44, Tryz.ntmps44
    go_wp2_with fail
    refine wp_region_held_drew (S := fun V => V.cell? ⟨gp, op, none⟩ = some (.string p0) ∧ V.cell? ⟨gp, op + 1, none⟩ = some (.string p1) ∧ V.cell? ⟨gp, op + 2, none⟩ = some (.string p2) ∧ V.cell? ⟨gp, op + 3, none⟩ = some (.string p3) ∧ V.cell? ⟨gp, op + 4, none⟩ = some (.string p4) ∧ V.cell? ⟨gp, op + 5, none⟩ = some (.string p5) ∧ V.cell? ⟨gp, op + 6, none⟩ = some (.string p6) ∧ V.cell? ⟨gp, op + 7, none⟩ = some (.string p7)) (by kernel_rfl) ?_ (fun hHeld => ?_)
    · (try dsimp only); go_keep
    refine takeD 0 (some 13) (.slice (some ⟨gp, op, none⟩) 8 cp) rfl rfl (by kernel_rfl) (by kernel_rfl) (by kernel_rfl) (fun _ _ _ h => h) (Or.inl ⟨by rfl, ?_⟩) (by assumption) ?_
    · intro w hSw; (try dsimp only at hSw); go_simp <;> (intros; omega)
    simp only [Act.put, List.setIfInBounds_toArray, List.set_cons_zero, List.set_cons_succ]
    refine takeD 1 (some 14) (.pointer (some ⟨gp, op, none⟩)) rfl rfl (by kernel_rfl) (by kernel_rfl) (by kernel_rfl) (fun _ _ _ h => h) (Or.inl ⟨by rfl, ?_⟩) (by assumption) ?_
    · intro w hSw; (try dsimp only at hSw); go_simp <;> (intros; omega)
    simp only [Act.put, List.setIfInBounds_toArray, List.set_cons_zero, List.set_cons_succ]
    refine takeD 2 (some 15) (.string p0) rfl rfl (by kernel_rfl) (by kernel_rfl) (by kernel_rfl) (fun _ _ _ h => h) (Or.inl ⟨by rfl, ?_⟩) (by assumption) ?_
    · intro w hSw; (try dsimp only at hSw); go_simp <;> (intros; omega)
    simp only [Act.put, List.setIfInBounds_toArray, List.set_cons_zero, List.set_cons_succ]
    refine takeD 3 (some 16) (.slice (some ⟨gp, op, none⟩) 8 cp) rfl rfl (by kernel_rfl) (by kernel_rfl) (by kernel_rfl) (fun _ _ _ h => h) (Or.inl ⟨by rfl, ?_⟩) (by assumption) ?_
    · intro w hSw; (try dsimp only at hSw); go_simp <;> (intros; omega)
    simp only [Act.put, List.setIfInBounds_toArray, List.set_cons_zero, List.set_cons_succ]
    refine takeD 4 (some 17) (.pointer (some ⟨gp, op + 1, none⟩)) rfl rfl (by kernel_rfl) (by kernel_rfl) (by kernel_rfl) (fun _ _ _ h => h) (Or.inl ⟨by rfl, ?_⟩) (by assumption) ?_
    · intro w hSw; (try dsimp only at hSw); go_simp <;> (intros; omega)
    simp only [Act.put, List.setIfInBounds_toArray, List.set_cons_zero, List.set_cons_succ]
    refine takeD 5 (some 18) (.string p1) rfl rfl (by kernel_rfl) (by kernel_rfl) (by kernel_rfl) (fun _ _ _ h => h) (Or.inl ⟨by rfl, ?_⟩) (by assumption) ?_
    · intro w hSw; (try dsimp only at hSw); go_simp <;> (intros; omega)
    simp only [Act.put, List.setIfInBounds_toArray, List.set_cons_zero, List.set_cons_succ]
    refine takeD 6 (some 19) (.string (p0 ++ p1)) rfl rfl (by kernel_rfl) (by kernel_rfl) (by kernel_rfl) (fun _ _ _ h => h) (Or.inl ⟨by rfl, ?_⟩) (by assumption) ?_
    · intro w hSw; (try dsimp only at hSw); go_simp <;> (intros; omega)
    simp only [Act.put, List.setIfInBounds_toArray, List.set_cons_zero, List.set_cons_succ]
    refine takeD 7 (some 20) (.slice (some ⟨gp, op, none⟩) 8 cp) rfl rfl (by kernel_rfl) (by kernel_rfl) (by kernel_rfl) (fun _ _ _ h => h) (Or.inl ⟨by rfl, ?_⟩) (by assumption) ?_
    · intro w hSw; (try dsimp only at hSw); go_simp <;> (intros; omega)
    simp only [Act.put, List.setIfInBounds_toArray, List.set_cons_zero, List.set_cons_succ]
    refine takeD 8 (some 21) (.pointer (some ⟨gp, op + 2, none⟩)) rfl rfl (by kernel_rfl) (by kernel_rfl) (by kernel_rfl) (fun _ _ _ h => h) (Or.inl ⟨by rfl, ?_⟩) (by assumption) ?_
    · intro w hSw; (try dsimp only at hSw); go_simp <;> (intros; omega)
    simp only [Act.put, List.setIfInBounds_toArray, List.set_cons_zero, List.set_cons_succ]
    refine takeD 9 (some 22) (.string p2) rfl rfl (by kernel_rfl) (by kernel_rfl) (by kernel_rfl) (fun _ _ _ h => h) (Or.inl ⟨by rfl, ?_⟩) (by assumption) ?_
    · intro w hSw; (try dsimp only at hSw); go_simp <;> (intros; omega)
    simp only [Act.put, List.setIfInBounds_toArray, List.set_cons_zero, List.set_cons_succ]
    refine takeD 10 (some 23) (.string (p0 ++ p1 ++ p2)) rfl rfl (by kernel_rfl) (by kernel_rfl) (by kernel_rfl) (fun _ _ _ h => h) (Or.inl ⟨by rfl, ?_⟩) (by assumption) ?_
    · intro w hSw; (try dsimp only at hSw); go_simp <;> (intros; omega)
    simp only [Act.put, List.setIfInBounds_toArray, List.set_cons_zero, List.set_cons_succ]
    refine takeD 11 (some 24) (.slice (some ⟨gp, op, none⟩) 8 cp) rfl rfl (by kernel_rfl) (by kernel_rfl) (by kernel_rfl) (fun _ _ _ h => h) (Or.inl ⟨by rfl, ?_⟩) (by assumption) ?_
    · intro w hSw; (try dsimp only at hSw); go_simp <;> (intros; omega)
    simp only [Act.put, List.setIfInBounds_toArray, List.set_cons_zero, List.set_cons_succ]
    refine takeD 12 (some 25) (.pointer (some ⟨gp, op + 3, none⟩)) rfl rfl (by kernel_rfl) (by kernel_rfl) (by kernel_rfl) (fun _ _ _ h => h) (Or.inl ⟨by rfl, ?_⟩) (by assumption) ?_
    · intro w hSw; (try dsimp only at hSw); go_simp <;> (intros; omega)
    simp only [Act.put, List.setIfInBounds_toArray, List.set_cons_zero, List.set_cons_succ]
    refine takeD 13 (some 26) (.string p3) rfl rfl (by kernel_rfl) (by kernel_rfl) (by kernel_rfl) (fun _ _ _ h => h) (Or.inl ⟨by rfl, ?_⟩) (by assumption) ?_
    · intro w hSw; (try dsimp only at hSw); go_simp <;> (intros; omega)
    simp only [Act.put, List.setIfInBounds_toArray, List.set_cons_zero, List.set_cons_succ]
    refine takeD 14 (some 27) (.string (p0 ++ p1 ++ p2 ++ p3)) rfl rfl (by kernel_rfl) (by kernel_rfl) (by kernel_rfl) (fun _ _ _ h => h) (Or.inl ⟨by rfl, ?_⟩) (by assumption) ?_
    · intro w hSw; (try dsimp only at hSw); go_simp <;> (intros; omega)
    simp only [Act.put, List.setIfInBounds_toArray, List.set_cons_zero, List.set_cons_succ]
    refine takeD 15 (some 28) (.slice (some ⟨gp, op, none⟩) 8 cp) rfl rfl (by kernel_rfl) (by kernel_rfl) (by kernel_rfl) (fun _ _ _ h => h) (Or.inl ⟨by rfl, ?_⟩) (by assumption) ?_
    · intro w hSw; (try dsimp only at hSw); go_simp <;> (intros; omega)
    simp only [Act.put, List.setIfInBounds_toArray, List.set_cons_zero, List.set_cons_succ]
    refine takeD 16 (some 29) (.pointer (some ⟨gp, op + 4, none⟩)) rfl rfl (by kernel_rfl) (by kernel_rfl) (by kernel_rfl) (fun _ _ _ h => h) (Or.inl ⟨by rfl, ?_⟩) (by assumption) ?_
    · intro w hSw; (try dsimp only at hSw); go_simp <;> (intros; omega)
    simp only [Act.put, List.setIfInBounds_toArray, List.set_cons_zero, List.set_cons_succ]
    refine takeD 17 (some 30) (.string p4) rfl rfl (by kernel_rfl) (by kernel_rfl) (by kernel_rfl) (fun _ _ _ h => h) (Or.inl ⟨by rfl, ?_⟩) (by assumption) ?_
    · intro w hSw; (try dsimp only at hSw); go_simp <;> (intros; omega)
    simp only [Act.put, List.setIfInBounds_toArray, List.set_cons_zero, List.set_cons_succ]
    refine takeD 18 (some 31) (.string (p0 ++ p1 ++ p2 ++ p3 ++ p4)) rfl rfl (by kernel_rfl) (by kernel_rfl) (by kernel_rfl) (fun _ _ _ h => h) (Or.inl ⟨by rfl, ?_⟩) (by assumption) ?_
    · intro w hSw; (try dsimp only at hSw); go_simp <;> (intros; omega)
    simp only [Act.put, List.setIfInBounds_toArray, List.set_cons_zero, List.set_cons_succ]
    refine takeD 19 (some 32) (.slice (some ⟨gp, op, none⟩) 8 cp) rfl rfl (by kernel_rfl) (by kernel_rfl) (by kernel_rfl) (fun _ _ _ h => h) (Or.inl ⟨by rfl, ?_⟩) (by assumption) ?_
    · intro w hSw; (try dsimp only at hSw); go_simp <;> (intros; omega)
    simp only [Act.put, List.setIfInBounds_toArray, List.set_cons_zero, List.set_cons_succ]
    refine takeD 20 (some 33) (.pointer (some ⟨gp, op + 5, none⟩)) rfl rfl (by kernel_rfl) (by kernel_rfl) (by kernel_rfl) (fun _ _ _ h => h) (Or.inl ⟨by rfl, ?_⟩) (by assumption) ?_
    · intro w hSw; (try dsimp only at hSw); go_simp <;> (intros; omega)
    simp only [Act.put, List.setIfInBounds_toArray, List.set_cons_zero, List.set_cons_succ]
    refine takeD 21 (some 34) (.string p5) rfl rfl (by kernel_rfl) (by kernel_rfl) (by kernel_rfl) (fun _ _ _ h => h) (Or.inl ⟨by rfl, ?_⟩) (by assumption) ?_
    · intro w hSw; (try dsimp only at hSw); go_simp <;> (intros; omega)
    simp only [Act.put, List.setIfInBounds_toArray, List.set_cons_zero, List.set_cons_succ]
    refine takeD 22 (some 35) (.string (p0 ++ p1 ++ p2 ++ p3 ++ p4 ++ p5)) rfl rfl (by kernel_rfl) (by kernel_rfl) (by kernel_rfl) (fun _ _ _ h => h) (Or.inl ⟨by rfl, ?_⟩) (by assumption) ?_
    · intro w hSw; (try dsimp only at hSw); go_simp <;> (intros; omega)
    simp only [Act.put, List.setIfInBounds_toArray, List.set_cons_zero, List.set_cons_succ]
    refine takeD 23 (some 36) (.slice (some ⟨gp, op, none⟩) 8 cp) rfl rfl (by kernel_rfl) (by kernel_rfl) (by kernel_rfl) (fun _ _ _ h => h) (Or.inl ⟨by rfl, ?_⟩) (by assumption) ?_
    · intro w hSw; (try dsimp only at hSw); go_simp <;> (intros; omega)
    simp only [Act.put, List.setIfInBounds_toArray, List.set_cons_zero, List.set_cons_succ]
    refine takeD 24 (some 37) (.pointer (some ⟨gp, op + 6, none⟩)) rfl rfl (by kernel_rfl) (by kernel_rfl) (by kernel_rfl) (fun _ _ _ h => h) (Or.inl ⟨by rfl, ?_⟩) (by assumption) ?_
    · intro w hSw; (try dsimp only at hSw); go_simp <;> (intros; omega)
    simp only [Act.put, List.setIfInBounds_toArray, List.set_cons_zero, List.set_cons_succ]
    refine takeD 25 (some 38) (.string p6) rfl rfl (by kernel_rfl) (by kernel_rfl) (by kernel_rfl) (fun _ _ _ h => h) (Or.inl ⟨by rfl, ?_⟩) (by assumption) ?_
    · intro w hSw; (try dsimp only at hSw); go_simp <;> (intros; omega)
    simp only [Act.put, List.setIfInBounds_toArray, List.set_cons_zero, List.set_cons_succ]
    refine takeD 26 (some 39) (.string (p0 ++ p1 ++ p2 ++ p3 ++ p4 ++ p5 ++ p6)) rfl rfl (by kernel_rfl) (by kernel_rfl) (by kernel_rfl) (fun _ _ _ h => h) (Or.inl ⟨by rfl, ?_⟩) (by assumption) ?_
    · intro w hSw; (try dsimp only at hSw); go_simp <;> (intros; omega)
    simp only [Act.put, List.setIfInBounds_toArray, List.set_cons_zero, List.set_cons_succ]
    refine takeD 27 (some 40) (.slice (some ⟨gp, op, none⟩) 8 cp) rfl rfl (by kernel_rfl) (by kernel_rfl) (by kernel_rfl) (fun _ _ _ h => h) (Or.inl ⟨by rfl, ?_⟩) (by assumption) ?_
    · intro w hSw; (try dsimp only at hSw); go_simp <;> (intros; omega)
    simp only [Act.put, List.setIfInBounds_toArray, List.set_cons_zero, List.set_cons_succ]
    refine takeD 28 (some 41) (.pointer (some ⟨gp, op + 7, none⟩)) rfl rfl (by kernel_rfl) (by kernel_rfl) (by kernel_rfl) (fun _ _ _ h => h) (Or.inl ⟨by rfl, ?_⟩) (by assumption) ?_
    · intro w hSw; (try dsimp only at hSw); go_simp <;> (intros; omega)
    simp only [Act.put, List.setIfInBounds_toArray, List.set_cons_zero, List.set_cons_succ]
    refine takeD 29 (some 42) (.string p7) rfl rfl (by kernel_rfl) (by kernel_rfl) (by kernel_rfl) (fun _ _ _ h => h) (Or.inl ⟨by rfl, ?_⟩) (by assumption) ?_
    · intro w hSw; (try dsimp only at hSw); go_simp <;> (intros; omega)
    simp only [Act.put, List.setIfInBounds_toArray, List.set_cons_zero, List.set_cons_succ]
    refine wpAnyH_ready (rs := [30]) (by kernel_rfl) (by simp) ?_
    refine AllReadyH.cons rfl (fun K hK => ?_) AllReadyH.nil
    go_simp
    go_at_call 41; refine (HF7.out _).mono ?_; rintro r w1 ⟨rfl, hB⟩; have B1 := hide' (show Below w.heap.size w w1 by first | exact hB | exact bstep B0.out.drew hB B0.out.size); clear hB
    go_wp2_with fail
    refine hK.out _ _ (QF.out _ B1.out) (fun hHeld => ?_)
    clear hK K
    try simp only [Act.put, List.setIfInBounds_toArray, List.set_cons_zero, List.set_cons_succ]
    refine takeD 31 (some 44) (.string (p0 ++ p1 ++ p2 ++ p3 ++ p4 ++ p5 ++ p6 ++ F7)) rfl rfl (by kernel_rfl) (by kernel_rfl) (by kernel_rfl) (fun _ _ _ h => h) (Or.inl ⟨by rfl, ?_⟩) (by assumption) ?_
    · intro w hSw; (try dsimp only at hSw); go_simp <;> (intros; omega)
    simp only [Act.put, List.setIfInBounds_toArray, List.set_cons_zero, List.set_cons_succ]
    refine takeD 32 (some 5) (.string (p0 ++ p1 ++ p2 ++ p3 ++ p4 ++ p5 ++ p6 ++ F7)) rfl rfl (by kernel_rfl) (by kernel_rfl) (by kernel_rfl) (fun _ _ _ h => h) (Or.inl ⟨by rfl, ?_⟩) (by assumption) ?_
    · intro w hSw; (try dsimp only at hSw); go_simp <;> (intros; omega)
    simp only [Act.put, List.setIfInBounds_toArray, List.set_cons_zero, List.set_cons_succ]
    refine wpAnyH_done (by kernel_rfl) ?_ _
    clear c0 c1 c2 c3 c4 c5 c6 c7 f0
    obtain ⟨c0, c1, c2, c3, c4, c5, c6, c7⟩ := QF.out _ B1.out
    have f0 := HFI.out _ B1.out
    go_upto_region 6 with (first
      | (go_at_call 41; refine (HFO.out _).mono ?_; rintro r w2 ⟨rfl, hB⟩; have B2 := hide' (show Below w.heap.size w w2 by first | exact bstep B1.out hB B1.out.size | exact bstep B1.out.drew hB B1.out.size); clear hB c0 c1 c2 c3 c4 c5 c6 c7 f0; obtain ⟨c0, c1, c2, c3, c4, c5, c6, c7⟩ := QF.out _ B2.out)
      | (go_at_call 54; refine (HVA.out _).mono ?_; rintro r w3 ⟨rfl, hB⟩; have B3 := hide' (show Below w.heap.size w w3 by first | (rw [hB]; exact B2.out) | exact bstep B2.out hB B2.out.size); clear hB)
      | (go_at_call 38; refine (HSL.out _).mono ?_; rintro r w4 ⟨rfl, hB⟩; have B4 := hide' (bstep B3.out hB B3.out.size); clear hB))
    rename_i KK hKK
    have HKK := hide' hKK
    clear hKK
    go_wp2_with fail
    refine HKK.out _ _ ?_
    exact HTAIL.out FO hFOz _ B4 HAH _ _ _ _ _ _ _ _ _ _ _ _ _ _ _ _ _ _ _ _ _ _ _ _ _ _ _ _ _ _ _ _ _ _ _ _ _ _ _ _ _ _ _ _ _ _ _ _ _ _ _ _ _ _ _ _ _ _ _ _ _ _ _ _ _ _ _ _ _ _ _ _ _ _ _ _ _ _ _ _ _ _ _ _ _ _ _ _ _ _ _ _ _ _ _ _ _ _ _ _ _
end Go.Proofs.YtennkhdhnbdbeaaGreat

/-
  gazetteerref4.Figure of longer texts; the owner that is signed, either way. (The verifier's own text.)
-/
namespace Go.Proofs.YtennkhdhnbdbeaaGreat
set_option linter.unusedVariables false
set_option linter.unusedSimpArgs false
open Go.RowKit Go.Shelf Go.Proofs.YtennkhdhnbdbeaaGreat.Nm

set_option maxRecDepth 100000 in
set_option maxHeartbeats 1000000 in
/-- gazetteerref4.half -/
theorem half_any2 (s : ByteArray) (M P : Nat) (w : World) (hs : s.size ≤ 2097152) (hM : M ≤ 1048576) (hP : 1 < P) (hP2 : P ≤ 1099511627776) :
    Calls Tryz.prog 102 #[.string s, .int .i64 (M : Int), .int .i64 (P : Int)] w fun e w' => e = .returned (.int .i64 (hN M P s s.size : Int)) ∧ w' = w := by
  go_enter Tryz.func102, Tryz.ntmps102
  go_wp2
  go_loop [7, 8] (fun a i => ∃ j : Nat, i = .int .i64 (j : Int) ∧ a = .int .i64 (hN M P s j : Int) ∧ j ≤ s.size) (fun _ i => s.size - (intOf i).toNat)
  case atStart => exact ⟨0, rfl, rfl, Nat.zero_le _⟩
  case round =>
    obtain ⟨j, rfl, rfl, hj⟩ := hrel
    by_cases hlt : j < s.size
    · obtain ⟨y, hy, hy256⟩ : ∃ y, bt s j = y ∧ y < 256 := ⟨_, rfl, bt_lt _ _⟩
      have hx := hN_lt M P s hP j
      have HE : Hid (hN M P s (j + 1) = (hN M P s j * M + y + 1) % P) := by unfold Hid; rw [hN, hy]
      generalize hN M P s j = x at *
      obtain ⟨z, hz⟩ : ∃ z : Nat, x * M = z := ⟨_, rfl⟩
      have hzl : z ≤ 1152921504606846976 := by rw [← hz]; exact Nat.le_trans (Nat.mul_le_mul (Nat.le_of_lt (Nat.lt_of_lt_of_le hx hP2)) hM) (by decide)
      have hzi : (x : Int) * (M : Int) = (z : Int) := by rw [← hz]; simp
      rw [hz] at HE
      have hP0 : ¬ (P : Int) = 0 := by omega
      go_wp2
      refine ⟨⟨j + 1, by go_num, ?_, by omega⟩, by simp [intOf]; omega⟩
      have e1 : wrap64 ((s[j].toNat : Nat) : Int) = (y : Int) := by rw [bt_eq hlt, hy]; exact Go.IntWalk.wrap64_in _ (by omega)
      have e2 := wrap_three z y hzl hy256
      have e3 : ((z + y + 1 : Nat) : Int).tmod (P : Int) = (((z + y + 1) % P : Nat) : Int) := rfl
      rw [e1, e2, e3, HE.out]
    · obtain rfl : j = s.size := by omega
      go_wp2
      go_ret
      exact ⟨rfl, rfl⟩
set_option maxRecDepth 100000 in
set_option maxHeartbeats 2000000 in
/-- gazetteerref4.Digest -/
theorem refDigest_any2 (s : ByteArray) (w : World) (hs : s.size ≤ 2097152) :
    Calls Tryz.prog 83 #[.string s] w fun e w' => e = .returned (.string (digB s)) ∧ Below w.heap.size w w' := by
  have HH1 : Hid (∀ w : World, Calls Tryz.prog 102 #[.string s, .int .i64 1000003, .int .i64 1099511627689] w fun e w' => e = .returned (.int .i64 (hN 1000003 1099511627689 s s.size : Int)) ∧ w' = w) := fun w => half_any2 s 1000003 1099511627689 w hs (by decide) (by decide) (by decide)
  have HH2 : Hid (∀ w : World, Calls Tryz.prog 102 #[.string s, .int .i64 999983, .int .i64 1099511627563] w fun e w' => e = .returned (.int .i64 (hN 999983 1099511627563 s s.size : Int)) ∧ w' = w) := fun w => half_any2 s 999983 1099511627563 w hs (by decide) (by decide) (by decide)
  have l1 := hN_lt 1000003 1099511627689 s (by decide) s.size
  have l2 := hN_lt 999983 1099511627563 s (by decide) s.size
  have hd : digB s = nB (hN 1000003 1099511627689 s s.size) 5 ++ nB (hN 999983 1099511627563 s s.size) 5 := rfl
  rw [hd]
  clear hd
  generalize hN 1000003 1099511627689 s s.size = x1 at *
  generalize hN 999983 1099511627563 s s.size = x2 at *
  have had : ∀ W : World, (Op.stringOp .add (nB x1 5) (nB x2 5)).run Tryz.prog W = .ok (.string (nB x1 5 ++ nB x2 5)) W := fun W => run_string_add_sum W _ _ (by rw [nB_size, nB_size]; omega)
  have L1 := hide' l1
  have L2 := hide' l2
  clear l1 l2
  go_enter Tryz.func83, Tryz.ntmps83
  go_wp2_with (go_at_call 102; refine (HH1.out _).mono ?_; rintro e w1 ⟨rfl, rfl⟩)
  go_wp2_with (go_at_call 37; refine (refBytes_any 5 x1 _ (by omega) (by have := L1.out; omega)).mono ?_; rintro e w2 ⟨rfl, hB2⟩)
  go_wp2_with (go_at_call 102; refine (HH2.out _).mono ?_; rintro e w1 ⟨rfl, rfl⟩)
  go_wp2_with (go_at_call 37; refine (refBytes_any 5 x2 _ (by omega) (by have := L2.out; omega)).mono ?_; rintro e w3 ⟨rfl, hB3⟩)
  go_ret
  exact ⟨rfl, bstep hB2 hB3 hB2.size⟩

set_option maxRecDepth 100000 in
set_option maxHeartbeats 1000000 in
/-- gazetteerref4.Figure -/
theorem figure_any2 (s : ByteArray) (m : Nat) (w : World) (hs : s.size ≤ 2097152) (hm : 1 ≤ m) (hm2 : m ≤ 2147483647) :
    Calls Tryz.prog 43 #[.string s, .int .i64 (m : Int)] w fun r w' => r = .returned (.int .i64 (fgN (digB s) m 10 : Int)) ∧ Below w.heap.size w w' := by
  have hm0 : ¬ (m : Int) = 0 := by omega
  have HD := hide' (fun w => refDigest_any2 s w hs)
  have zD := digB_size s
  generalize digB s = D at *
  go_enter Tryz.func43, Tryz.ntmps43
  go_wp2_with (go_at_call 83; refine (HD.out _).mono ?_; rintro r w1 ⟨rfl, hB1⟩)
  have HB1 := hide' hB1
  clear hB1
  go_loop [5, 7] (fun a i => ∃ j : Nat, i = .int .i64 (j : Int) ∧ a = .int .i64 (fgN D m j : Int) ∧ j ≤ 10) (fun _ i => 10 - (intOf i).toNat)
  case atStart => exact ⟨0, rfl, rfl, Nat.zero_le _⟩
  case round =>
    obtain ⟨j, rfl, rfl, hj⟩ := hrel
    by_cases hlt : j < 10
    · have hltD : j < D.size := by omega
      obtain ⟨y, hy, hy256⟩ : ∃ y, bt D j = y ∧ y < 256 := ⟨_, rfl, bt_lt _ _⟩
      have hby : (D[j]'hltD).toNat = y := (bt_eq hltD).trans hy
      have hxl := fgN_lt D m hm j
      have HE : Hid (fgN D m (j + 1) = (fgN D m j * 256 + y) % m) := by unfold Hid; rw [fgN, hy]
      generalize fgN D m j = x at *
      have hor := or_byte x y (by omega) hy256
      obtain ⟨z, hz⟩ : ∃ z : Nat, x * 256 + y = z := ⟨_, rfl⟩
      have hzl : z ≤ 549755814143 := by omega
      rw [hz] at hor HE
      have hzi : (x : Int) * 256 + (y : Int) = (z : Int) := by omega
      have hzm : (z : Int).tmod (m : Int) = ((z % m : Nat) : Int) := rfl
      clear hz
      go_wp2_with fail
      exact ⟨⟨j + 1, by go_num, by rw [HE.out]; simp, by omega⟩, by simp [intOf]; omega⟩
    · obtain rfl : j = 10 := by omega
      go_wp2_with fail
      go_ret
      exact ⟨rfl, HB1.out⟩
theorem lb_fold {n : ByteArray} (h : isN n = true) : lbI (foldB n) = lbI n := by
  rw [foldB_yes h]
  exact (same_low (isN_low h).1 h (low_low n)).2.2.1
theorem tail_fold {n : ByteArray} (h : isN n = true) (k : Nat) (hk : k ≤ (labs n).length) : tailB (foldB n) k = lowB (tailB n k) := by
  obtain ⟨f1, f2⟩ := isN_fold h
  obtain ⟨-, -, a3⟩ := tailB_yes (k := k) f1 (by rw [f2, List.length_map]; exact hk)
  obtain ⟨-, -, b3⟩ := tailB_yes (k := k) h hk
  rw [a3, b3, f2, List.length_map, ← List.map_drop]
  exact putB_low _ (fun x hx => ((okL_labs n).drop _ x hx).2)
/-- the owner that is signed is the same, whether it is folded first or last -/
theorem ow_same {n : ByteArray} (h : isN n = true) (k : Nat) : owR k n = owB k n := by
  unfold owR owB
  rw [lb_fold h]
  by_cases hlt : (k : Int) < lbI n
  · rw [if_pos hlt, if_pos hlt]
    have hk : k ≤ (labs n).length := by
      cases hs : isStarB n with
      | true => rw [lbI_star hs, cntI_yes h] at hlt; omega
      | false => rw [lbI_none hs, cntI_yes h] at hlt; omega
    obtain ⟨t1, -, -⟩ := tailB_yes (k := k) h hk
    rw [tail_fold h k hk]
    have h2 := (isN_low t1).1
    by_cases hz : (tailB n k).size ≤ 253
    · rw [starB_yes h2 (by rw [lowB_size]; exact hz), starB_yes t1 hz]
      have hN : isN (⟨#[1, 42]⟩ ++ tailB n k) = true := by
        rw [← starB_put t1, isN_putB (by
          intro x hx
          rcases List.mem_cons.1 hx with rfl | hx
          · decide
          · exact okL_labs _ x hx)]
        apply decide_eq_true
        rw [starB_put t1, ByteArray.size_append]
        have h3 : (⟨#[1, 42]⟩ : ByteArray).size = 2 := rfl
        omega
      have hst : lowB ⟨#[1, 42]⟩ = ⟨#[1, 42]⟩ := by
        refine ba_ext (by rw [lowB_size]) fun j hj => ?_
        rw [lowB_size] at hj
        have hj2 : j = 0 ∨ j = 1 := by have h3 : (⟨#[1, 42]⟩ : ByteArray).size = 2 := rfl; omega
        rcases hj2 with rfl | rfl
        · rw [lowB_bt]; rfl
        · rw [lowB_bt]; rfl
      rw [foldB_yes hN, lowB_append, hst]
    · rw [starB_no (by rw [lowB_size]; exact fun e => hz e.2), starB_no (fun e => hz e.2), foldB_no isN_empty]
  · rw [if_neg hlt, if_neg hlt]
end Go.Proofs.YtennkhdhnbdbeaaGreat

/-
  gazetteerref4.SignSet: what is asked first. (The verifier's own text.)
-/
namespace Go.Proofs.YtennkhdhnbdbeaaGreat
set_option linter.unusedVariables false
set_option linter.unusedSimpArgs false
open Go.RowKit Go.Shelf Go.Sort Go.Proofs.YtennkhdhnbdbeaaGreat.Nm

/-- what lies in memory along SignSet -/
def Sn (w wc : World) (f m e s : Int) (p : Option Addr) (L : List Rn) : Prop := Sw w wc f m e s p L ∧ Bx wc (w.heap.size + 2) #[.string .empty, .int .i64 0, .int .i64 0, .int .i64 0, .string .empty] 27
theorem Sn.step {w wc wd : World} {f m e s : Int} {p : Option Addr} {L : List Rn} (h : Sn w wc f m e s p L) (hB : Below wc.heap.size wc wd) : Sn w wd f m e s p L := ⟨h.1.step hB, h.2.below hB h.2.lt⟩
theorem Sn.start (w : World) (f m e s : Int) (p : Option Addr) (L : List Rn) (hat : RsAt w p L) : Sn w (((w.alloc (.cells #[.int .i64 f, .int .i64 m, .int .i64 e, .int .i64 s] 23)).alloc (.cells #[.string .empty, .int .i64 0, .int .i64 0, .int .i64 0, .string .empty] 27)).alloc (.cells #[.string .empty, .int .i64 0, .int .i64 0, .int .i64 0, .string .empty] 27)) f m e s p L := by
  have h1 := Sw.start w f m e s p L hat
  refine ⟨h1.step ((Below.refl _ _).alloc (Nat.le_refl _) _), ?_⟩
  have h2 : Bx (((w.alloc (.cells #[.int .i64 f, .int .i64 m, .int .i64 e, .int .i64 s] 23)).alloc (.cells #[.string .empty, .int .i64 0, .int .i64 0, .int .i64 0, .string .empty] 27)).alloc (.cells #[.string .empty, .int .i64 0, .int .i64 0, .int .i64 0, .string .empty] 27)) ((w.alloc (.cells #[.int .i64 f, .int .i64 m, .int .i64 e, .int .i64 s] 23)).alloc (.cells #[.string .empty, .int .i64 0, .int .i64 0, .int .i64 0, .string .empty] 27)).heap.size #[.string .empty, .int .i64 0, .int .i64 0, .int .i64 0, .string .empty] 27 := World.alloc_heap_new _ _
  rw [World.size_alloc, World.size_alloc] at h2
  exact h2
theorem Sn.none {w wc : World} {f m e s : Int} {p : Option Addr} {L : List Rn} (h : Sn w wc f m e s p L) : wc.cell? ⟨w.heap.size + 2, 0, none⟩ = some (.string .empty) ∧ wc.cell? ⟨w.heap.size + 2, 1, none⟩ = some (.int .i64 0) ∧ wc.cell? ⟨w.heap.size + 2, 2, none⟩ = some (.int .i64 0) ∧ wc.cell? ⟨w.heap.size + 2, 3, none⟩ = some (.int .i64 0) ∧ wc.cell? ⟨w.heap.size + 2, 4, none⟩ = some (.string .empty) := ⟨h.2.cell rfl, h.2.cell rfl, h.2.cell rfl, h.2.cell rfl, h.2.cell rfl⟩
set_option maxRecDepth 100000 in
set_option maxHeartbeats 4000000 in
/-- gazetteerref4.SignSet, where something is wrong ahead of the ages -/
theorem signset_no (f m e s : Int) (n : ByteArray) (L : List Rn) (p : Option Addr) (cap : Nat) (b u : Int) (w : World) (hn : n.size ≤ 1048576) (hL : L.length ≤ 1048576) (hat : RsAt w p L) (hz : ∀ r ∈ L, r.o.size ≤ 1048576 ∧ r.d.size ≤ 9223372036854775807) (hE : rkB f m e s = false ∨ isN n = false ∨ (b < 0 ∨ u < b ∨ 4294967295 < u) ∨ setOK L = false) :
    Calls Tryz.prog 9 #[.agg #[.int .i64 f, .int .i64 m, .int .i64 e, .int .i64 s], .string n, .slice p L.length cap, .int .i64 b, .int .i64 u] w fun r w' => r = .returned (.tuple #[.agg #[.string .empty, .int .i64 0, .int .i64 0, .int .i64 0, .string .empty], .int .i64 (signE f m e s n L b u)]) ∧ Below w.heap.size w w' := by
  have ST0 := hide' (Sn.start w f m e s p L hat)
  have HI := hide' (fun w => refRight_any f m e s w)
  have HC := hide' (fun w => refIsName_any n w hn)
  have HS := hide' (fun W (h : RsAt W p L) => refIsSet_any L p cap W hL h hz)
  obtain ⟨k0, k1, k2, k3⟩ := ST0.out.1.keys
  clear hat
  cases h1 : rkB f m e s with
  | false =>
    have HE : Hid (signE f m e s n L b u = 24) := by unfold Hid signE; rw [if_pos h1]
    rw [HE.out]
    rw [h1] at HI
    clear h1 hE
    go_enter Tryz.func9, Tryz.ntmps9
    go_wp2_with (first
      | (go_at_call 33; refine (HI.out _).mono ?_; rintro r w1 ⟨rfl, hB⟩; have ST1 := hide' (ST0.out.step hB); obtain ⟨z0, z1, z2, z3, z4⟩ := ST1.out.1.zero; obtain ⟨y0, y1, y2, y3, y4⟩ := ST1.out.none; have g0 := ST1.out.1.2.1.free 0; have g1 := ST1.out.1.2.1.free 1; have g2 := ST1.out.1.2.1.free 2; have g3 := ST1.out.1.2.1.free 3; have g4 := ST1.out.1.2.1.free 4; clear hB)
      | (go_at_call 34; refine (HC.out _).mono ?_; rintro r w2 ⟨rfl, hB⟩; have ST2 := hide' (ST1.out.step hB); obtain ⟨z0, z1, z2, z3, z4⟩ := ST2.out.1.zero; obtain ⟨y0, y1, y2, y3, y4⟩ := ST2.out.none; have g0 := ST2.out.1.2.1.free 0; have g1 := ST2.out.1.2.1.free 1; have g2 := ST2.out.1.2.1.free 2; have g3 := ST2.out.1.2.1.free 3; have g4 := ST2.out.1.2.1.free 4; clear hB)
      | (go_at_call 35; refine (HS.out _ ST2.out.1.2.2.2).mono ?_; rintro r w3 ⟨rfl, hB⟩; have ST3 := hide' (ST2.out.step hB); obtain ⟨z0, z1, z2, z3, z4⟩ := ST3.out.1.zero; obtain ⟨y0, y1, y2, y3, y4⟩ := ST3.out.none; have g0 := ST3.out.1.2.1.free 0; have g1 := ST3.out.1.2.1.free 1; have g2 := ST3.out.1.2.1.free 2; have g3 := ST3.out.1.2.1.free 3; have g4 := ST3.out.1.2.1.free 4; clear hB))
    have E := ((((ST1.out.1.2.1.set 0 (.string .empty)).set 1 (.int .i64 0)).set 2 (.int .i64 0)).set 3 (.int .i64 0)).set 4 (.string .empty)
    have q0 := E.cell (j := 0) (v := .string .empty) (by simp)
    have q1 := E.cell (j := 1) (v := .int .i64 0) (by simp)
    have q2 := E.cell (j := 2) (v := .int .i64 0) (by simp)
    have q3 := E.cell (j := 3) (v := .int .i64 0) (by simp)
    have q4 := E.cell (j := 4) (v := .string .empty) (by simp)
    refine bodyPost_ret (v := .tuple #[.agg #[.string .empty, .int .i64 0, .int .i64 0, .int .i64 0, .string .empty], .int .i64 24]) (by simp [results, go_sem, q0, q1, q2, q3, q4]) rfl ⟨rfl, ?_⟩
    exact (((((ST1.out.1.2.2.1.setCell (p := ⟨w.heap.size + 1, 0, none⟩) (Nat.le_succ _) (.string .empty)).setCell (p := ⟨w.heap.size + 1, 1, none⟩) (Nat.le_succ _) (.int .i64 0)).setCell (p := ⟨w.heap.size + 1, 2, none⟩) (Nat.le_succ _) (.int .i64 0)).setCell (p := ⟨w.heap.size + 1, 3, none⟩) (Nat.le_succ _) (.int .i64 0)).setCell (p := ⟨w.heap.size + 1, 4, none⟩) (Nat.le_succ _) (.string .empty))
  | true =>
    rw [h1] at HI
    cases h2 : isN n with
    | false =>
      have HE : Hid (signE f m e s n L b u = 1) := by unfold Hid signE; rw [if_neg (by rw [h1]; decide), if_pos h2]
      rw [HE.out]
      rw [h2] at HC
      clear h1 h2 hE
      go_enter Tryz.func9, Tryz.ntmps9
      go_wp2_with (first
        | (go_at_call 33; refine (HI.out _).mono ?_; rintro r w1 ⟨rfl, hB⟩; have ST1 := hide' (ST0.out.step hB); obtain ⟨z0, z1, z2, z3, z4⟩ := ST1.out.1.zero; obtain ⟨y0, y1, y2, y3, y4⟩ := ST1.out.none; have g0 := ST1.out.1.2.1.free 0; have g1 := ST1.out.1.2.1.free 1; have g2 := ST1.out.1.2.1.free 2; have g3 := ST1.out.1.2.1.free 3; have g4 := ST1.out.1.2.1.free 4; clear hB)
        | (go_at_call 34; refine (HC.out _).mono ?_; rintro r w2 ⟨rfl, hB⟩; have ST2 := hide' (ST1.out.step hB); obtain ⟨z0, z1, z2, z3, z4⟩ := ST2.out.1.zero; obtain ⟨y0, y1, y2, y3, y4⟩ := ST2.out.none; have g0 := ST2.out.1.2.1.free 0; have g1 := ST2.out.1.2.1.free 1; have g2 := ST2.out.1.2.1.free 2; have g3 := ST2.out.1.2.1.free 3; have g4 := ST2.out.1.2.1.free 4; clear hB)
        | (go_at_call 35; refine (HS.out _ ST2.out.1.2.2.2).mono ?_; rintro r w3 ⟨rfl, hB⟩; have ST3 := hide' (ST2.out.step hB); obtain ⟨z0, z1, z2, z3, z4⟩ := ST3.out.1.zero; obtain ⟨y0, y1, y2, y3, y4⟩ := ST3.out.none; have g0 := ST3.out.1.2.1.free 0; have g1 := ST3.out.1.2.1.free 1; have g2 := ST3.out.1.2.1.free 2; have g3 := ST3.out.1.2.1.free 3; have g4 := ST3.out.1.2.1.free 4; clear hB))
      have E := ((((ST2.out.1.2.1.set 0 (.string .empty)).set 1 (.int .i64 0)).set 2 (.int .i64 0)).set 3 (.int .i64 0)).set 4 (.string .empty)
      have q0 := E.cell (j := 0) (v := .string .empty) (by simp)
      have q1 := E.cell (j := 1) (v := .int .i64 0) (by simp)
      have q2 := E.cell (j := 2) (v := .int .i64 0) (by simp)
      have q3 := E.cell (j := 3) (v := .int .i64 0) (by simp)
      have q4 := E.cell (j := 4) (v := .string .empty) (by simp)
      refine bodyPost_ret (v := .tuple #[.agg #[.string .empty, .int .i64 0, .int .i64 0, .int .i64 0, .string .empty], .int .i64 1]) (by simp [results, go_sem, q0, q1, q2, q3, q4]) rfl ⟨rfl, ?_⟩
      exact (((((ST2.out.1.2.2.1.setCell (p := ⟨w.heap.size + 1, 0, none⟩) (Nat.le_succ _) (.string .empty)).setCell (p := ⟨w.heap.size + 1, 1, none⟩) (Nat.le_succ _) (.int .i64 0)).setCell (p := ⟨w.heap.size + 1, 2, none⟩) (Nat.le_succ _) (.int .i64 0)).setCell (p := ⟨w.heap.size + 1, 3, none⟩) (Nat.le_succ _) (.int .i64 0)).setCell (p := ⟨w.heap.size + 1, 4, none⟩) (Nat.le_succ _) (.string .empty))
    | true =>
      rw [h2] at HC
      by_cases h3 : b < 0 ∨ u < b ∨ 4294967295 < u
      · have HE : Hid (signE f m e s n L b u = 25) := by unfold Hid signE; rw [if_neg (by rw [h1]; decide), if_neg (by rw [h2]; decide), if_pos h3]
        rw [HE.out]
        clear h1 h2 hE
        rcases Classical.em (b < 0) with hb | hb
        · clear h3
          go_enter Tryz.func9, Tryz.ntmps9
          go_wp2_with (first
            | (go_at_call 33; refine (HI.out _).mono ?_; rintro r w1 ⟨rfl, hB⟩; have ST1 := hide' (ST0.out.step hB); obtain ⟨z0, z1, z2, z3, z4⟩ := ST1.out.1.zero; obtain ⟨y0, y1, y2, y3, y4⟩ := ST1.out.none; have g0 := ST1.out.1.2.1.free 0; have g1 := ST1.out.1.2.1.free 1; have g2 := ST1.out.1.2.1.free 2; have g3 := ST1.out.1.2.1.free 3; have g4 := ST1.out.1.2.1.free 4; clear hB)
            | (go_at_call 34; refine (HC.out _).mono ?_; rintro r w2 ⟨rfl, hB⟩; have ST2 := hide' (ST1.out.step hB); obtain ⟨z0, z1, z2, z3, z4⟩ := ST2.out.1.zero; obtain ⟨y0, y1, y2, y3, y4⟩ := ST2.out.none; have g0 := ST2.out.1.2.1.free 0; have g1 := ST2.out.1.2.1.free 1; have g2 := ST2.out.1.2.1.free 2; have g3 := ST2.out.1.2.1.free 3; have g4 := ST2.out.1.2.1.free 4; clear hB)
            | (go_at_call 35; refine (HS.out _ ST2.out.1.2.2.2).mono ?_; rintro r w3 ⟨rfl, hB⟩; have ST3 := hide' (ST2.out.step hB); obtain ⟨z0, z1, z2, z3, z4⟩ := ST3.out.1.zero; obtain ⟨y0, y1, y2, y3, y4⟩ := ST3.out.none; have g0 := ST3.out.1.2.1.free 0; have g1 := ST3.out.1.2.1.free 1; have g2 := ST3.out.1.2.1.free 2; have g3 := ST3.out.1.2.1.free 3; have g4 := ST3.out.1.2.1.free 4; clear hB))
          have E := ((((ST2.out.1.2.1.set 0 (.string .empty)).set 1 (.int .i64 0)).set 2 (.int .i64 0)).set 3 (.int .i64 0)).set 4 (.string .empty)
          have q0 := E.cell (j := 0) (v := .string .empty) (by simp)
          have q1 := E.cell (j := 1) (v := .int .i64 0) (by simp)
          have q2 := E.cell (j := 2) (v := .int .i64 0) (by simp)
          have q3 := E.cell (j := 3) (v := .int .i64 0) (by simp)
          have q4 := E.cell (j := 4) (v := .string .empty) (by simp)
          refine bodyPost_ret (v := .tuple #[.agg #[.string .empty, .int .i64 0, .int .i64 0, .int .i64 0, .string .empty], .int .i64 25]) (by simp [results, go_sem, q0, q1, q2, q3, q4]) rfl ⟨rfl, ?_⟩
          exact (((((ST2.out.1.2.2.1.setCell (p := ⟨w.heap.size + 1, 0, none⟩) (Nat.le_succ _) (.string .empty)).setCell (p := ⟨w.heap.size + 1, 1, none⟩) (Nat.le_succ _) (.int .i64 0)).setCell (p := ⟨w.heap.size + 1, 2, none⟩) (Nat.le_succ _) (.int .i64 0)).setCell (p := ⟨w.heap.size + 1, 3, none⟩) (Nat.le_succ _) (.int .i64 0)).setCell (p := ⟨w.heap.size + 1, 4, none⟩) (Nat.le_succ _) (.string .empty))
        rcases Classical.em (u < b) with hb2 | hb2
        · clear h3
          go_enter Tryz.func9, Tryz.ntmps9
          go_wp2_with (first
            | (go_at_call 33; refine (HI.out _).mono ?_; rintro r w1 ⟨rfl, hB⟩; have ST1 := hide' (ST0.out.step hB); obtain ⟨z0, z1, z2, z3, z4⟩ := ST1.out.1.zero; obtain ⟨y0, y1, y2, y3, y4⟩ := ST1.out.none; have g0 := ST1.out.1.2.1.free 0; have g1 := ST1.out.1.2.1.free 1; have g2 := ST1.out.1.2.1.free 2; have g3 := ST1.out.1.2.1.free 3; have g4 := ST1.out.1.2.1.free 4; clear hB)
            | (go_at_call 34; refine (HC.out _).mono ?_; rintro r w2 ⟨rfl, hB⟩; have ST2 := hide' (ST1.out.step hB); obtain ⟨z0, z1, z2, z3, z4⟩ := ST2.out.1.zero; obtain ⟨y0, y1, y2, y3, y4⟩ := ST2.out.none; have g0 := ST2.out.1.2.1.free 0; have g1 := ST2.out.1.2.1.free 1; have g2 := ST2.out.1.2.1.free 2; have g3 := ST2.out.1.2.1.free 3; have g4 := ST2.out.1.2.1.free 4; clear hB)
            | (go_at_call 35; refine (HS.out _ ST2.out.1.2.2.2).mono ?_; rintro r w3 ⟨rfl, hB⟩; have ST3 := hide' (ST2.out.step hB); obtain ⟨z0, z1, z2, z3, z4⟩ := ST3.out.1.zero; obtain ⟨y0, y1, y2, y3, y4⟩ := ST3.out.none; have g0 := ST3.out.1.2.1.free 0; have g1 := ST3.out.1.2.1.free 1; have g2 := ST3.out.1.2.1.free 2; have g3 := ST3.out.1.2.1.free 3; have g4 := ST3.out.1.2.1.free 4; clear hB))
          have E := ((((ST2.out.1.2.1.set 0 (.string .empty)).set 1 (.int .i64 0)).set 2 (.int .i64 0)).set 3 (.int .i64 0)).set 4 (.string .empty)
          have q0 := E.cell (j := 0) (v := .string .empty) (by simp)
          have q1 := E.cell (j := 1) (v := .int .i64 0) (by simp)
          have q2 := E.cell (j := 2) (v := .int .i64 0) (by simp)
          have q3 := E.cell (j := 3) (v := .int .i64 0) (by simp)
          have q4 := E.cell (j := 4) (v := .string .empty) (by simp)
          refine bodyPost_ret (v := .tuple #[.agg #[.string .empty, .int .i64 0, .int .i64 0, .int .i64 0, .string .empty], .int .i64 25]) (by simp [results, go_sem, q0, q1, q2, q3, q4]) rfl ⟨rfl, ?_⟩
          exact (((((ST2.out.1.2.2.1.setCell (p := ⟨w.heap.size + 1, 0, none⟩) (Nat.le_succ _) (.string .empty)).setCell (p := ⟨w.heap.size + 1, 1, none⟩) (Nat.le_succ _) (.int .i64 0)).setCell (p := ⟨w.heap.size + 1, 2, none⟩) (Nat.le_succ _) (.int .i64 0)).setCell (p := ⟨w.heap.size + 1, 3, none⟩) (Nat.le_succ _) (.int .i64 0)).setCell (p := ⟨w.heap.size + 1, 4, none⟩) (Nat.le_succ _) (.string .empty))
        have hb3 : 4294967295 < u := by rcases h3 with h | h | h <;> first | exact absurd h hb | exact absurd h hb2 | exact h
        clear h3
        go_enter Tryz.func9, Tryz.ntmps9
        go_wp2_with (first
          | (go_at_call 33; refine (HI.out _).mono ?_; rintro r w1 ⟨rfl, hB⟩; have ST1 := hide' (ST0.out.step hB); obtain ⟨z0, z1, z2, z3, z4⟩ := ST1.out.1.zero; obtain ⟨y0, y1, y2, y3, y4⟩ := ST1.out.none; have g0 := ST1.out.1.2.1.free 0; have g1 := ST1.out.1.2.1.free 1; have g2 := ST1.out.1.2.1.free 2; have g3 := ST1.out.1.2.1.free 3; have g4 := ST1.out.1.2.1.free 4; clear hB)
          | (go_at_call 34; refine (HC.out _).mono ?_; rintro r w2 ⟨rfl, hB⟩; have ST2 := hide' (ST1.out.step hB); obtain ⟨z0, z1, z2, z3, z4⟩ := ST2.out.1.zero; obtain ⟨y0, y1, y2, y3, y4⟩ := ST2.out.none; have g0 := ST2.out.1.2.1.free 0; have g1 := ST2.out.1.2.1.free 1; have g2 := ST2.out.1.2.1.free 2; have g3 := ST2.out.1.2.1.free 3; have g4 := ST2.out.1.2.1.free 4; clear hB)
          | (go_at_call 35; refine (HS.out _ ST2.out.1.2.2.2).mono ?_; rintro r w3 ⟨rfl, hB⟩; have ST3 := hide' (ST2.out.step hB); obtain ⟨z0, z1, z2, z3, z4⟩ := ST3.out.1.zero; obtain ⟨y0, y1, y2, y3, y4⟩ := ST3.out.none; have g0 := ST3.out.1.2.1.free 0; have g1 := ST3.out.1.2.1.free 1; have g2 := ST3.out.1.2.1.free 2; have g3 := ST3.out.1.2.1.free 3; have g4 := ST3.out.1.2.1.free 4; clear hB))
        have E := ((((ST2.out.1.2.1.set 0 (.string .empty)).set 1 (.int .i64 0)).set 2 (.int .i64 0)).set 3 (.int .i64 0)).set 4 (.string .empty)
        have q0 := E.cell (j := 0) (v := .string .empty) (by simp)
        have q1 := E.cell (j := 1) (v := .int .i64 0) (by simp)
        have q2 := E.cell (j := 2) (v := .int .i64 0) (by simp)
        have q3 := E.cell (j := 3) (v := .int .i64 0) (by simp)
        have q4 := E.cell (j := 4) (v := .string .empty) (by simp)
        refine bodyPost_ret (v := .tuple #[.agg #[.string .empty, .int .i64 0, .int .i64 0, .int .i64 0, .string .empty], .int .i64 25]) (by simp [results, go_sem, q0, q1, q2, q3, q4]) rfl ⟨rfl, ?_⟩
        exact (((((ST2.out.1.2.2.1.setCell (p := ⟨w.heap.size + 1, 0, none⟩) (Nat.le_succ _) (.string .empty)).setCell (p := ⟨w.heap.size + 1, 1, none⟩) (Nat.le_succ _) (.int .i64 0)).setCell (p := ⟨w.heap.size + 1, 2, none⟩) (Nat.le_succ _) (.int .i64 0)).setCell (p := ⟨w.heap.size + 1, 3, none⟩) (Nat.le_succ _) (.int .i64 0)).setCell (p := ⟨w.heap.size + 1, 4, none⟩) (Nat.le_succ _) (.string .empty))
      have hb : ¬ b < 0 := fun h => h3 (.inl h)
      have hb2 : ¬ u < b := fun h => h3 (.inr (.inl h))
      have hb3 : ¬ 4294967295 < u := fun h => h3 (.inr (.inr h))
      have h4 : setOK L = false := by
        rcases hE with h | h | h | h
        · rw [h1] at h; cases h
        · rw [h2] at h; cases h
        · exact absurd h h3
        · exact h
      have HE : Hid (signE f m e s n L b u = 8) := by unfold Hid signE; rw [if_neg (by rw [h1]; decide), if_neg (by rw [h2]; decide), if_neg h3, if_pos (.inl h4)]
      rw [HE.out]
      rw [h4] at HS
      clear h1 h2 h3 h4 hE
      go_enter Tryz.func9, Tryz.ntmps9
      go_wp2_with (first
        | (go_at_call 33; refine (HI.out _).mono ?_; rintro r w1 ⟨rfl, hB⟩; have ST1 := hide' (ST0.out.step hB); obtain ⟨z0, z1, z2, z3, z4⟩ := ST1.out.1.zero; obtain ⟨y0, y1, y2, y3, y4⟩ := ST1.out.none; have g0 := ST1.out.1.2.1.free 0; have g1 := ST1.out.1.2.1.free 1; have g2 := ST1.out.1.2.1.free 2; have g3 := ST1.out.1.2.1.free 3; have g4 := ST1.out.1.2.1.free 4; clear hB)
        | (go_at_call 34; refine (HC.out _).mono ?_; rintro r w2 ⟨rfl, hB⟩; have ST2 := hide' (ST1.out.step hB); obtain ⟨z0, z1, z2, z3, z4⟩ := ST2.out.1.zero; obtain ⟨y0, y1, y2, y3, y4⟩ := ST2.out.none; have g0 := ST2.out.1.2.1.free 0; have g1 := ST2.out.1.2.1.free 1; have g2 := ST2.out.1.2.1.free 2; have g3 := ST2.out.1.2.1.free 3; have g4 := ST2.out.1.2.1.free 4; clear hB)
        | (go_at_call 35; refine (HS.out _ ST2.out.1.2.2.2).mono ?_; rintro r w3 ⟨rfl, hB⟩; have ST3 := hide' (ST2.out.step hB); obtain ⟨z0, z1, z2, z3, z4⟩ := ST3.out.1.zero; obtain ⟨y0, y1, y2, y3, y4⟩ := ST3.out.none; have g0 := ST3.out.1.2.1.free 0; have g1 := ST3.out.1.2.1.free 1; have g2 := ST3.out.1.2.1.free 2; have g3 := ST3.out.1.2.1.free 3; have g4 := ST3.out.1.2.1.free 4; clear hB))
      have E := ((((ST3.out.1.2.1.set 0 (.string .empty)).set 1 (.int .i64 0)).set 2 (.int .i64 0)).set 3 (.int .i64 0)).set 4 (.string .empty)
      have q0 := E.cell (j := 0) (v := .string .empty) (by simp)
      have q1 := E.cell (j := 1) (v := .int .i64 0) (by simp)
      have q2 := E.cell (j := 2) (v := .int .i64 0) (by simp)
      have q3 := E.cell (j := 3) (v := .int .i64 0) (by simp)
      have q4 := E.cell (j := 4) (v := .string .empty) (by simp)
      refine bodyPost_ret (v := .tuple #[.agg #[.string .empty, .int .i64 0, .int .i64 0, .int .i64 0, .string .empty], .int .i64 8]) (by simp [results, go_sem, q0, q1, q2, q3, q4]) rfl ⟨rfl, ?_⟩
      exact (((((ST3.out.1.2.2.1.setCell (p := ⟨w.heap.size + 1, 0, none⟩) (Nat.le_succ _) (.string .empty)).setCell (p := ⟨w.heap.size + 1, 1, none⟩) (Nat.le_succ _) (.int .i64 0)).setCell (p := ⟨w.heap.size + 1, 2, none⟩) (Nat.le_succ _) (.int .i64 0)).setCell (p := ⟨w.heap.size + 1, 3, none⟩) (Nat.le_succ _) (.int .i64 0)).setCell (p := ⟨w.heap.size + 1, 4, none⟩) (Nat.le_succ _) (.string .empty))
end Go.Proofs.YtennkhdhnbdbeaaGreat

/-
  gazetteerref4.SignSet: the ages, the zone. (The verifier's own text.)
-/
namespace Go.Proofs.YtennkhdhnbdbeaaGreat
set_option linter.unusedVariables false
set_option linter.unusedSimpArgs false
open Go.RowKit Go.Shelf Go.Sort Go.Proofs.YtennkhdhnbdbeaaGreat.Nm

theorem Sn.drew {w wc : World} {f m e s : Int} {p : Option Addr} {L : List Rn} (h : Sn w wc f m e s p L) : Sn w wc.drew f m e s p L := ⟨h.1.drew, h.2⟩
theorem age_no {L : List Rn} {k : Nat} (hk : k < L.length) (h : L[k].l ≠ (hdR L).l) : oneAge L = false := by
  unfold oneAge
  have h0 : (L.head?.map (·.l)).getD 0 = (hdR L).l := by cases L with | nil => simp at hk | cons x l => rfl
  rw [h0]
  have : (L.any fun r => r.l != (hdR L).l) = true := List.any_eq_true.2 ⟨_, List.getElem_mem hk, by simpa using h⟩
  rw [this]; rfl
theorem age_yes {L : List Rn} (hp : 0 < L.length) (h : ∀ i, (hi : i < L.length) → L[i].l = (hdR L).l) : oneAge L = true := by
  unfold oneAge
  have h0 : (L.head?.map (·.l)).getD 0 = (hdR L).l := by cases L with | nil => simp at hp | cons x l => rfl
  rw [h0]
  have : (L.any fun r => r.l != (hdR L).l) = false := List.any_eq_false.2 fun r hr => by
    obtain ⟨i, hi, rfl⟩ := List.getElem_of_mem hr
    simpa using h i hi
  rw [this]; rfl
set_option maxRecDepth 100000 in
set_option maxHeartbeats 8000000 in
theorem signset_age (f m e s : Int) (n : ByteArray) (L : List Rn) (p : Option Addr) (cap : Nat) (b u : Int) (w : World) (hn : n.size ≤ 1048576) (hL : L.length ≤ 1048576) (hat : RsAt w p L) (hz : ∀ r ∈ L, r.o.size ≤ 1048576 ∧ r.d.size ≤ 9223372036854775807) (h1 : rkB f m e s = true) (h2 : isN n = true) (hb : ¬ b < 0) (hb2 : ¬ u < b) (hb3 : ¬ 4294967295 < u) (h4 : setOK L = true) (h5 : oneAge L = false) :
    Calls Tryz.prog 9 #[.agg #[.int .i64 f, .int .i64 m, .int .i64 e, .int .i64 s], .string n, .slice p L.length cap, .int .i64 b, .int .i64 u] w fun r w' => r = .returned (.tuple #[.agg #[.string .empty, .int .i64 0, .int .i64 0, .int .i64 0, .string .empty], .int .i64 (signE f m e s n L b u)]) ∧ Below w.heap.size w w' := by
  have hp := setOK_pos h4
  have h3 : ¬ (b < 0 ∨ u < b ∨ 4294967295 < u) := by rintro (h | h | h); exact hb h; exact hb2 h; exact hb3 h
  have HE : Hid (signE f m e s n L b u = 8) := by unfold Hid signE; rw [if_neg (by rw [h1]; decide), if_neg (by rw [h2]; decide), if_neg h3, if_pos (.inr h5)]
  rw [HE.out]
  have ST0 := hide' (Sn.start w f m e s p L hat)
  have HI := hide' (fun w => refRight_any f m e s w)
  have HC := hide' (fun w => refIsName_any n w hn)
  have HS := hide' (fun W (h : RsAt W p L) => refIsSet_any L p cap W hL h hz)
  have HWI := hide' (fun W => refWithin_any (hdR L).o n W (by rw [← hdR_eq hp]; exact (hz _ (List.getElem_mem hp)).1) hn)
  rw [h1] at HI
  rw [h2] at HC
  rw [h4] at HS
  obtain ⟨k0, k1, k2, k3⟩ := ST0.out.1.keys
  obtain ⟨nl, hnl⟩ : ∃ nl, L.length = nl := ⟨_, rfl⟩
  have HNL := hide' hnl
  rw [hnl] at hL HS hp ⊢
  obtain ⟨g, off, hpp, hgl, -⟩ := hat 0 (by omega)
  subst hpp
  have hni : (0 : Int) < (nl : Int) := by omega
  clear hat hz h1 h2 h3 h4 hnl HE
  go_enter Tryz.func9, Tryz.ntmps9
  go_wp2_with (first
    | (go_at_call 33; refine (HI.out _).mono ?_; rintro r w1 ⟨rfl, hB⟩; have ST1 := hide' (ST0.out.step hB); clear hB k0 k1 k2 k3)
    | (go_at_call 34; refine (HC.out _).mono ?_; rintro r w2 ⟨rfl, hB⟩; have ST2 := hide' (ST1.out.step hB); clear hB)
    | (go_at_call 35; refine (HS.out _ ST2.out.1.2.2.2).mono ?_; rintro r w3 ⟨rfl, hB⟩; have ST3 := hide' (ST2.out.step hB); clear hB))
  clear HI HC HS ST0 ST1 ST2
  go_loopw [47] (fun iv wr => ∃ k : Nat, iv = .int .i64 (k : Int) ∧ k ≤ nl ∧ Hid (∀ i, (hi : i < L.length) → i < k → L[i].l = (hdR L).l) ∧ Hid (Sn w wr f m e s (some ⟨g, off, none⟩) L)) (fun iv _ => nl - (intOf iv).toNat)
  case atStart => exact ⟨0, rfl, Nat.zero_le _, (fun i _ h => absurd h (Nat.not_lt_zero _)), ST3⟩
  case round =>
    clear ST3
    obtain ⟨k, rfl, hk, AK, SK⟩ := hrel
    by_cases hlt : k < nl
    · have hki : (k : Int) < (nl : Int) := by omega
      have hkl : k < L.length := by rw [HNL.out]; exact hlt
      have h0l : 0 < L.length := by rw [HNL.out]; exact hp
      obtain ⟨g', off', hq, _, e0, e1, e2, e3, e4⟩ := SK.out.1.2.2.2 k hkl
      injection hq with hq
      injection hq with hq1 hq2
      subst hq1
      subst hq2
      obtain ⟨g', off', hq, _, -, -, -, a3, -⟩ := SK.out.1.2.2.2 0 h0l
      injection hq with hq
      injection hq with hq1 hq2
      subst hq1
      subst hq2
      rw [Nat.zero_mul, Nat.add_zero, hdR_eq h0l] at a3
      have HAN := hide' (age_no hkl)
      have HAS : Hid (L[k].l = (hdR L).l → ∀ i, (hi : i < L.length) → i < k + 1 → L[i].l = (hdR L).l) := fun h i hi hik => by
        rcases Nat.lt_or_ge i k with h5 | h5
        · exact AK.out i hi h5
        · obtain rfl : i = k := by omega
          exact h
      obtain ⟨x, hx⟩ : ∃ x, L[k] = x := ⟨_, rfl⟩
      obtain ⟨l0, hl0⟩ : ∃ l0, (hdR L).l = l0 := ⟨_, rfl⟩
      simp only [hx, hl0] at e0 e1 e2 e3 e4 a3 HAN HAS
      have HL0 := hide' hl0
      clear hx hl0
      obtain ⟨o, t, c, l, d⟩ := x
      simp only at e0 e1 e2 e3 e4 HAN HAS
      obtain ⟨W1, hW1⟩ : ∃ W1, wr.alloc (.cells #[.string o, .int .i64 t, .int .i64 c, .int .i64 l, .string d] 27) = W1 := ⟨_, rfl⟩
      have hb1 : Below wr.heap.size wr W1 := by rw [← hW1]; exact (Below.refl _ _).alloc (Nat.le_refl _) _
      have hx1 : Bx (wr.alloc (.cells #[.string o, .int .i64 t, .int .i64 c, .int .i64 l, .string d] 27)) wr.heap.size #[.string o, .int .i64 t, .int .i64 c, .int .i64 l, .string d] 27 := World.alloc_heap_new wr _
      rw [hW1] at hx1
      have q3' := hx1.cell (j := 3) rfl
      have S1 := hide' (SK.out.step hb1)
      have b3 : W1.cell? ⟨g, off + 3, none⟩ = some (.int .i64 l0) := by
        rw [hb1.cell (p := ⟨g, off + 3, none⟩) (Nat.lt_of_lt_of_le hgl SK.out.1.2.2.1.size)]; exact a3
      clear hx1 hb1
      obtain ⟨z0, z1, z2, z3, z4⟩ := S1.out.1.zero
      obtain ⟨y0, y1, y2, y3, y4⟩ := S1.out.none
      have g0 := S1.out.1.2.1.free 0
      have g1 := S1.out.1.2.1.free 1
      have g2 := S1.out.1.2.1.free 2
      have g3 := S1.out.1.2.1.free 3
      have g4 := S1.out.1.2.1.free 4
      have S1d := hide' S1.out.drew
      obtain ⟨z0, z1, z2, z3, z4⟩ := S1d.out.1.zero
      obtain ⟨y0, y1, y2, y3, y4⟩ := S1d.out.none
      have g0 := S1d.out.1.2.1.free 0
      have g1 := S1d.out.1.2.1.free 1
      have g2 := S1d.out.1.2.1.free 2
      have g3 := S1d.out.1.2.1.free 3
      have g4 := S1d.out.1.2.1.free 4
      by_cases hll : l = l0
      · have HAS2 := hide' (HAS.out hll)
        have hlb : (l != l0) = false := by rw [hll]; simp
        subst hll
        clear HAN HAS
        go_wp2_with fail
        go_region_with (fail)
        all_goals
          go_wp2_with fail
          refine ⟨⟨k + 1, by go_num, by omega, (by unfold Hid; rw [HL0.out]; exact HAS2.out), by first | exact S1 | exact S1.out.drew⟩, by simp [intOf]; omega⟩
      · have HBAD := hide' (HAN.out hll)
        clear HAN HAS
        go_wp2_with fail
        go_region_with (fail)
        all_goals
          go_wp2_with fail
          have E := ((((S1.out.1.2.1.set 0 (.string .empty)).set 1 (.int .i64 0)).set 2 (.int .i64 0)).set 3 (.int .i64 0)).set 4 (.string .empty)
          have E := bx_d8 E
          have q0 := E.cell (j := 0) (v := .string .empty) (by simp)
          have q1 := E.cell (j := 1) (v := .int .i64 0) (by simp)
          have q2 := E.cell (j := 2) (v := .int .i64 0) (by simp)
          have q3 := E.cell (j := 3) (v := .int .i64 0) (by simp)
          have q4 := E.cell (j := 4) (v := .string .empty) (by simp)
          refine bodyPost_ret (v := .tuple #[.agg #[.string .empty, .int .i64 0, .int .i64 0, .int .i64 0, .string .empty], .int .i64 8]) (by simp [results, go_sem, q0, q1, q2, q3, q4]) rfl ⟨rfl, ?_⟩
          exact ((((((S1.out.1.2.2.1.setCell (p := ⟨w.heap.size + 1, 0, none⟩) (Nat.le_succ _) (.string .empty)).setCell (p := ⟨w.heap.size + 1, 1, none⟩) (Nat.le_succ _) (.int .i64 0)).setCell (p := ⟨w.heap.size + 1, 2, none⟩) (Nat.le_succ _) (.int .i64 0)).setCell (p := ⟨w.heap.size + 1, 3, none⟩) (Nat.le_succ _) (.int .i64 0)).setCell (p := ⟨w.heap.size + 1, 4, none⟩) (Nat.le_succ _) (.string .empty))).drew
    · obtain rfl : k = nl := by omega
      have HYES : Hid (oneAge L = true) := age_yes (by rw [HNL.out]; exact hp) (fun i hi => AK.out i hi (by have := HNL.out; omega))
      rw [HYES.out] at h5
      cases h5
set_option maxRecDepth 100000 in
set_option maxHeartbeats 8000000 in
theorem signset_out (f m e s : Int) (n : ByteArray) (L : List Rn) (p : Option Addr) (cap : Nat) (b u : Int) (w : World) (hn : n.size ≤ 1048576) (hL : L.length ≤ 1048576) (hat : RsAt w p L) (hz : ∀ r ∈ L, r.o.size ≤ 1048576 ∧ r.d.size ≤ 9223372036854775807) (h1 : rkB f m e s = true) (h2 : isN n = true) (hb : ¬ b < 0) (hb2 : ¬ u < b) (hb3 : ¬ 4294967295 < u) (h4 : setOK L = true) (h5 : oneAge L = true) (h6 : withinB (hdR L).o n = false) :
    Calls Tryz.prog 9 #[.agg #[.int .i64 f, .int .i64 m, .int .i64 e, .int .i64 s], .string n, .slice p L.length cap, .int .i64 b, .int .i64 u] w fun r w' => r = .returned (.tuple #[.agg #[.string .empty, .int .i64 0, .int .i64 0, .int .i64 0, .string .empty], .int .i64 (signE f m e s n L b u)]) ∧ Below w.heap.size w w' := by
  have hp := setOK_pos h4
  have h3 : ¬ (b < 0 ∨ u < b ∨ 4294967295 < u) := by rintro (h | h | h); exact hb h; exact hb2 h; exact hb3 h
  have HE : Hid (signE f m e s n L b u = 5) := by unfold Hid signE; rw [if_neg (by rw [h1]; decide), if_neg (by rw [h2]; decide), if_neg h3, if_neg (by rw [h4, h5]; simp), if_pos h6]
  rw [HE.out]
  have ST0 := hide' (Sn.start w f m e s p L hat)
  have HI := hide' (fun w => refRight_any f m e s w)
  have HC := hide' (fun w => refIsName_any n w hn)
  have HS := hide' (fun W (h : RsAt W p L) => refIsSet_any L p cap W hL h hz)
  have HWI := hide' (fun W => refWithin_any (hdR L).o n W (by rw [← hdR_eq hp]; exact (hz _ (List.getElem_mem hp)).1) hn)
  rw [h1] at HI
  rw [h2] at HC
  rw [h4] at HS
  obtain ⟨k0, k1, k2, k3⟩ := ST0.out.1.keys
  obtain ⟨nl, hnl⟩ : ∃ nl, L.length = nl := ⟨_, rfl⟩
  have HNL := hide' hnl
  rw [hnl] at hL HS hp ⊢
  obtain ⟨g, off, hpp, hgl, -⟩ := hat 0 (by omega)
  subst hpp
  have hni : (0 : Int) < (nl : Int) := by omega
  clear hat hz h1 h2 h3 h4 hnl HE
  go_enter Tryz.func9, Tryz.ntmps9
  go_wp2_with (first
    | (go_at_call 33; refine (HI.out _).mono ?_; rintro r w1 ⟨rfl, hB⟩; have ST1 := hide' (ST0.out.step hB); clear hB k0 k1 k2 k3)
    | (go_at_call 34; refine (HC.out _).mono ?_; rintro r w2 ⟨rfl, hB⟩; have ST2 := hide' (ST1.out.step hB); clear hB)
    | (go_at_call 35; refine (HS.out _ ST2.out.1.2.2.2).mono ?_; rintro r w3 ⟨rfl, hB⟩; have ST3 := hide' (ST2.out.step hB); clear hB))
  clear HI HC HS ST0 ST1 ST2
  go_loopw [47] (fun iv wr => ∃ k : Nat, iv = .int .i64 (k : Int) ∧ k ≤ nl ∧ Hid (∀ i, (hi : i < L.length) → i < k → L[i].l = (hdR L).l) ∧ Hid (Sn w wr f m e s (some ⟨g, off, none⟩) L)) (fun iv _ => nl - (intOf iv).toNat)
  case atStart => exact ⟨0, rfl, Nat.zero_le _, (fun i _ h => absurd h (Nat.not_lt_zero _)), ST3⟩
  case round =>
    clear ST3
    obtain ⟨k, rfl, hk, AK, SK⟩ := hrel
    by_cases hlt : k < nl
    · have hki : (k : Int) < (nl : Int) := by omega
      have hkl : k < L.length := by rw [HNL.out]; exact hlt
      have h0l : 0 < L.length := by rw [HNL.out]; exact hp
      obtain ⟨g', off', hq, _, e0, e1, e2, e3, e4⟩ := SK.out.1.2.2.2 k hkl
      injection hq with hq
      injection hq with hq1 hq2
      subst hq1
      subst hq2
      obtain ⟨g', off', hq, _, -, -, -, a3, -⟩ := SK.out.1.2.2.2 0 h0l
      injection hq with hq
      injection hq with hq1 hq2
      subst hq1
      subst hq2
      rw [Nat.zero_mul, Nat.add_zero, hdR_eq h0l] at a3
      have HAN := hide' (age_no hkl)
      have HAS : Hid (L[k].l = (hdR L).l → ∀ i, (hi : i < L.length) → i < k + 1 → L[i].l = (hdR L).l) := fun h i hi hik => by
        rcases Nat.lt_or_ge i k with h5 | h5
        · exact AK.out i hi h5
        · obtain rfl : i = k := by omega
          exact h
      obtain ⟨x, hx⟩ : ∃ x, L[k] = x := ⟨_, rfl⟩
      obtain ⟨l0, hl0⟩ : ∃ l0, (hdR L).l = l0 := ⟨_, rfl⟩
      simp only [hx, hl0] at e0 e1 e2 e3 e4 a3 HAN HAS
      have HL0 := hide' hl0
      clear hx hl0
      obtain ⟨o, t, c, l, d⟩ := x
      simp only at e0 e1 e2 e3 e4 HAN HAS
      obtain ⟨W1, hW1⟩ : ∃ W1, wr.alloc (.cells #[.string o, .int .i64 t, .int .i64 c, .int .i64 l, .string d] 27) = W1 := ⟨_, rfl⟩
      have hb1 : Below wr.heap.size wr W1 := by rw [← hW1]; exact (Below.refl _ _).alloc (Nat.le_refl _) _
      have hx1 : Bx (wr.alloc (.cells #[.string o, .int .i64 t, .int .i64 c, .int .i64 l, .string d] 27)) wr.heap.size #[.string o, .int .i64 t, .int .i64 c, .int .i64 l, .string d] 27 := World.alloc_heap_new wr _
      rw [hW1] at hx1
      have q3' := hx1.cell (j := 3) rfl
      have S1 := hide' (SK.out.step hb1)
      have b3 : W1.cell? ⟨g, off + 3, none⟩ = some (.int .i64 l0) := by
        rw [hb1.cell (p := ⟨g, off + 3, none⟩) (Nat.lt_of_lt_of_le hgl SK.out.1.2.2.1.size)]; exact a3
      clear hx1 hb1
      obtain ⟨z0, z1, z2, z3, z4⟩ := S1.out.1.zero
      obtain ⟨y0, y1, y2, y3, y4⟩ := S1.out.none
      have g0 := S1.out.1.2.1.free 0
      have g1 := S1.out.1.2.1.free 1
      have g2 := S1.out.1.2.1.free 2
      have g3 := S1.out.1.2.1.free 3
      have g4 := S1.out.1.2.1.free 4
      have S1d := hide' S1.out.drew
      obtain ⟨z0, z1, z2, z3, z4⟩ := S1d.out.1.zero
      obtain ⟨y0, y1, y2, y3, y4⟩ := S1d.out.none
      have g0 := S1d.out.1.2.1.free 0
      have g1 := S1d.out.1.2.1.free 1
      have g2 := S1d.out.1.2.1.free 2
      have g3 := S1d.out.1.2.1.free 3
      have g4 := S1d.out.1.2.1.free 4
      by_cases hll : l = l0
      · have HAS2 := hide' (HAS.out hll)
        have hlb : (l != l0) = false := by rw [hll]; simp
        subst hll
        clear HAN HAS
        go_wp2_with fail
        go_region_with (fail)
        all_goals
          go_wp2_with fail
          refine ⟨⟨k + 1, by go_num, by omega, (by unfold Hid; rw [HL0.out]; exact HAS2.out), by first | exact S1 | exact S1.out.drew⟩, by simp [intOf]; omega⟩
      · have HBAD := hide' (HAN.out hll)
        rw [HBAD.out] at h5
        cases h5
    · obtain rfl : k = nl := by omega
      have HYES : Hid (oneAge L = true) := age_yes (by rw [HNL.out]; exact hp) (fun i hi => AK.out i hi (by have := HNL.out; omega))
      have h0l : 0 < L.length := by rw [HNL.out]; exact hp
      obtain ⟨g', off', hq, _, e0, e1, e2, e3, e4⟩ := SK.out.1.2.2.2 0 h0l
      injection hq with hq
      injection hq with hq1 hq2
      subst hq1
      subst hq2
      rw [Nat.zero_mul, Nat.add_zero, hdR_eq h0l] at e0 e1 e2 e3 e4
      rw [h6] at HWI
      obtain ⟨x, hx⟩ : ∃ x, hdR L = x := ⟨_, rfl⟩
      rw [hx] at e0 e1 e2 e3 e4 HWI
      clear hx
      obtain ⟨o, t, c, l, d⟩ := x
      simp only at e0 e1 e2 e3 e4 HWI
      have S1 := hide' (SK.out.step ((Below.refl _ wr).alloc (Nat.le_refl _) (.cells #[.string o, .int .i64 t, .int .i64 c, .int .i64 l, .string d] 27)))
      go_wp2_with (go_at_call 36; refine (HWI.out _).mono ?_; rintro r w4 ⟨rfl, hB⟩; have S2 := hide' (S1.out.step hB); clear hB; obtain ⟨z0, z1, z2, z3, z4⟩ := S2.out.1.zero; obtain ⟨y0, y1, y2, y3, y4⟩ := S2.out.none; have g0 := S2.out.1.2.1.free 0; have g1 := S2.out.1.2.1.free 1; have g2 := S2.out.1.2.1.free 2; have g3 := S2.out.1.2.1.free 3; have g4 := S2.out.1.2.1.free 4)
      have E := ((((S2.out.1.2.1.set 0 (.string .empty)).set 1 (.int .i64 0)).set 2 (.int .i64 0)).set 3 (.int .i64 0)).set 4 (.string .empty)
      have q0 := E.cell (j := 0) (v := .string .empty) (by simp)
      have q1 := E.cell (j := 1) (v := .int .i64 0) (by simp)
      have q2 := E.cell (j := 2) (v := .int .i64 0) (by simp)
      have q3 := E.cell (j := 3) (v := .int .i64 0) (by simp)
      have q4 := E.cell (j := 4) (v := .string .empty) (by simp)
      refine bodyPost_ret (v := .tuple #[.agg #[.string .empty, .int .i64 0, .int .i64 0, .int .i64 0, .string .empty], .int .i64 5]) (by simp [results, go_sem, q0, q1, q2, q3, q4]) rfl ⟨rfl, ?_⟩
      first | exact (((((S2.out.1.2.2.1.setCell (p := ⟨w.heap.size + 1, 0, none⟩) (Nat.le_succ _) (.string .empty)).setCell (p := ⟨w.heap.size + 1, 1, none⟩) (Nat.le_succ _) (.int .i64 0)).setCell (p := ⟨w.heap.size + 1, 2, none⟩) (Nat.le_succ _) (.int .i64 0)).setCell (p := ⟨w.heap.size + 1, 3, none⟩) (Nat.le_succ _) (.int .i64 0)).setCell (p := ⟨w.heap.size + 1, 4, none⟩) (Nat.le_succ _) (.string .empty)) | exact (((((S2.out.1.2.2.1.drew.setCell (p := ⟨w.heap.size + 1, 0, none⟩) (Nat.le_succ _) (.string .empty)).setCell (p := ⟨w.heap.size + 1, 1, none⟩) (Nat.le_succ _) (.int .i64 0)).setCell (p := ⟨w.heap.size + 1, 2, none⟩) (Nat.le_succ _) (.int .i64 0)).setCell (p := ⟨w.heap.size + 1, 3, none⟩) (Nat.le_succ _) (.int .i64 0)).setCell (p := ⟨w.heap.size + 1, 4, none⟩) (Nat.le_succ _) (.string .empty))

end Go.Proofs.YtennkhdhnbdbeaaGreat

/-
  gazetteerref4.SignSet: where all is right. (The verifier's own text.)
-/
namespace Go.Proofs.YtennkhdhnbdbeaaGreat
set_option linter.unusedVariables false
set_option linter.unusedSimpArgs false
open Go.RowKit Go.Shelf Go.Sort Go.Proofs.YtennkhdhnbdbeaaGreat.Nm

/-- with the first record's box -/
def Sl (w wc : World) (X : Nat) (f m e s : Int) (p : Option Addr) (L : List Rn) (rc : Array Value) : Prop := Sn w wc f m e s p L ∧ Bx wc X rc 27 ∧ w.heap.size + 2 < X
theorem Sl.step {w wc wd : World} {X : Nat} {f m e s : Int} {p : Option Addr} {L : List Rn} {rc : Array Value} (h : Sl w wc X f m e s p L rc) (hB : Below wc.heap.size wc wd) : Sl w wd X f m e s p L rc := ⟨h.1.step hB, h.2.1.below hB h.2.1.lt, h.2.2⟩
theorem Sl.drew {w wc : World} {X : Nat} {f m e s : Int} {p : Option Addr} {L : List Rn} {rc : Array Value} (h : Sl w wc X f m e s p L rc) : Sl w wc.drew X f m e s p L rc := ⟨h.1.drew, h.2.1, h.2.2⟩
/-- with the parts -/
def So (w wc : World) (X Y : Nat) (f m e s : Int) (p : Option Addr) (L : List Rn) (rc pa : Array Value) : Prop := Sl w wc X f m e s p L rc ∧ Bx wc Y pa 9 ∧ X < Y
theorem So.step {w wc wd : World} {X Y : Nat} {f m e s : Int} {p : Option Addr} {L : List Rn} {rc pa : Array Value} (h : So w wc X Y f m e s p L rc pa) (hB : Below wc.heap.size wc wd) : So w wd X Y f m e s p L rc pa := ⟨h.1.step hB, h.2.1.below hB h.2.1.lt, h.2.2⟩
theorem So.drew {w wc : World} {X Y : Nat} {f m e s : Int} {p : Option Addr} {L : List Rn} {rc pa : Array Value} (h : So w wc X Y f m e s p L rc pa) : So w wc.drew X Y f m e s p L rc pa := ⟨h.1.drew, h.2.1, h.2.2⟩
theorem So.start {w wc : World} {X : Nat} {f m e s : Int} {p : Option Addr} {L : List Rn} {rc : Array Value} (h : Sl w wc X f m e s p L rc) (pa : Array Value) : So w (wc.alloc (.cells pa 9)) X wc.heap.size f m e s p L rc pa := ⟨h.step ((Below.refl _ _).alloc (Nat.le_refl _) _), World.alloc_heap_new wc _, h.2.1.lt⟩
def catB (l : List ByteArray) : ByteArray := l.foldl (· ++ ·) .empty
theorem catB_snoc (l : List ByteArray) (x : ByteArray) : catB (l ++ [x]) = catB l ++ x := by unfold catB; rw [List.foldl_append]; rfl
theorem cat_stamp (c l g u b tg : Nat) (F : ByteArray) : catB [nB c 2, ⟨#[253]⟩, nB l 1, nB g 4, nB u 4, nB b 4, nB tg 2, F] = stB c 253 l g u b tg F := by
  have h : nB 253 1 = ⟨#[253]⟩ := by rw [nB_alg]; rfl
  unfold stB
  rw [h]
  unfold catB
  simp only [List.foldl_cons, List.foldl_nil, ByteArray.empty_append]
end Go.Proofs.YtennkhdhnbdbeaaGreat

/-
  gazetteerref4.SignSet: the signature. (The verifier's own text.)
-/
namespace Go.Proofs.YtennkhdhnbdbeaaGreat
set_option linter.unusedVariables false
set_option linter.unusedSimpArgs false
open Go.RowKit Go.Shelf Go.Sort Go.Proofs.YtennkhdhnbdbeaaGreat.Nm

set_option maxRecDepth 100000 in
set_option maxHeartbeats 8000000 in
theorem signset_tail (f : Int) (m e s : Nat) (L : List Rn) (g off nl cap X Y : Nat) (w V : World) (o d : ByteArray) (c : Int) (t0 g0 NV PV : Nat) (T S0 B4 : ByteArray) (PL : List ByteArray) (h8 : PL.length = 8) (HCAT : Hid (catB PL = S0)) (hps : ∀ x ∈ PL, x.size ≤ 255) (Q0 : Hid (So w V X Y f m e s (some ⟨g, off, none⟩) L #[.string o, .int .i64 (t0 : Int), .int .i64 c, .int .i64 (g0 : Int), .string d] ((PL.map Value.string).toArray)))
    (HSI : Hid (∀ W : World, So w W X Y f m e s (some ⟨g, off, none⟩) L #[.string o, .int .i64 (t0 : Int), .int .i64 c, .int .i64 (g0 : Int), .string d] ((PL.map Value.string).toArray) → Calls Tryz.prog 44 #[.slice (some ⟨Y, 0, none⟩) 8 8, .slice (some ⟨g, off, none⟩) nl cap] W fun r w' => r = .returned (.string T) ∧ Below W.heap.size W w'))
    (HFG : Hid (∀ W : World, Calls Tryz.prog 43 #[.string T, .int .i64 (m : Int)] W fun r w' => r = .returned (.int .i64 (NV : Int)) ∧ Below W.heap.size W w'))
    (HPW : Hid (∀ W : World, Calls Tryz.prog 42 #[.int .i64 (NV : Int), .int .i64 (s : Int), .int .i64 (m : Int)] W fun r w' => r = .returned (.int .i64 (PV : Int)) ∧ Below W.heap.size W w'))
    (HY4 : Hid (∀ W : World, Calls Tryz.prog 37 #[.int .i64 (PV : Int), .int .i64 4] W fun r w' => r = .returned (.string B4) ∧ Below W.heap.size W w'))
    (hadd : ∀ W : World, (Op.stringOp .add S0 B4).run Tryz.prog W = .ok (.string (S0 ++ B4)) W) (x0 x1 x3 x4 x6 x7 x8 x9 x11 x12 x13 x14 x17 x18 x19 x20 x21 x22 x23 x24 x25 x26 x27 x28 x29 x30 x31 x32 x33 x34 x35 x36 x37 x38 x39 x40 x41 x42 x43 x44 x45 x46 x47 x48 x49 x50 x51 x52 x53 x54 x55 x56 x57 x58 x59 x60 x61 x62 x63 x64 x65 x66 x67 x68 x69 x70 x71 x72 x73 x74 x75 x76 x77 x78 x79 x80 x81 x82 x83 x84 x85 x86 x87 x88 x89 x90 x91 x92 x93 x94 x95 x96 x97 x98 x99 x100 x101 x102 x103 x104 x105 x106 x107 x108 x109 x110 x111 x112 x113 x114 x115 x116 x117 x118 x119 : Value) :
    Code.wp Tryz.prog (((Tryz.f9.body.map (tailsS 19)).getD []).getD 0 .skip) (bodyPost Tryz.prog Tryz.f9 fun r w' => r = .returned (.tuple #[.agg #[.string o, .int .i64 46, .int .i64 1, .int .i64 (g0 : Int), .string (S0 ++ B4)], .int .i64 0]) ∧ Below w.heap.size w w') ⟨List.toArray (x0 :: x1 :: (.slice (some ⟨g, off, none⟩) nl cap : Value) :: x3 :: x4 :: (.pointer (some ⟨w.heap.size, 0, none⟩) : Value) :: x6 :: x7 :: x8 :: x9 :: (.pointer (some ⟨w.heap.size + 1, 0, none⟩) : Value) :: x11 :: x12 :: x13 :: x14 :: (.pointer (some ⟨X, 0, none⟩) : Value) :: (.slice (some ⟨Y, 0, none⟩) 8 8 : Value) :: x17 :: x18 :: x19 :: x20 :: x21 :: x22 :: x23 :: x24 :: x25 :: x26 :: x27 :: x28 :: x29 :: x30 :: x31 :: x32 :: x33 :: x34 :: x35 :: x36 :: x37 :: x38 :: x39 :: x40 :: x41 :: x42 :: x43 :: x44 :: x45 :: x46 :: x47 :: x48 :: x49 :: x50 :: x51 :: x52 :: x53 :: x54 :: x55 :: x56 :: x57 :: x58 :: x59 :: x60 :: x61 :: x62 :: x63 :: x64 :: x65 :: x66 :: x67 :: x68 :: x69 :: x70 :: x71 :: x72 :: x73 :: x74 :: x75 :: x76 :: x77 :: x78 :: x79 :: x80 :: x81 :: x82 :: x83 :: x84 :: x85 :: x86 :: x87 :: x88 :: x89 :: x90 :: x91 :: x92 :: x93 :: x94 :: x95 :: x96 :: x97 :: x98 :: x99 :: x100 :: x101 :: x102 :: x103 :: x104 :: x105 :: x106 :: x107 :: x108 :: x109 :: x110 :: x111 :: x112 :: x113 :: x114 :: x115 :: x116 :: x117 :: x118 :: x119 :: []), []⟩ V := by
  have QF : Hid (∀ V : World, So w V X Y f m e s (some ⟨g, off, none⟩) L #[.string o, .int .i64 (t0 : Int), .int .i64 c, .int .i64 (g0 : Int), .string d] ((PL.map Value.string).toArray) → V.cell? ⟨w.heap.size, 1, none⟩ = some (.int .i64 (m : Int)) ∧ V.cell? ⟨w.heap.size, 3, none⟩ = some (.int .i64 (s : Int))) := fun V h => ⟨h.1.1.1.1.cell rfl, h.1.1.1.1.cell rfl⟩
  obtain ⟨k1, k3⟩ := QF.out _ Q0.out
  conv => arg 2; whnf
  go_wp2_with fail
  refine wp_region_held_drew (S := fun V => V.cell? ⟨w.heap.size, 1, none⟩ = some (.int .i64 (m : Int)) ∧ V.cell? ⟨w.heap.size, 3, none⟩ = some (.int .i64 (s : Int))) (by kernel_rfl) ?_ (fun hHeld => ?_)
  · (try dsimp only); go_keep
  refine takeD 0 (some 90) (.slice (some ⟨Y, 0, none⟩) 8 8) rfl rfl (by kernel_rfl) (by kernel_rfl) (by kernel_rfl) (fun _ _ _ h => h) (Or.inl ⟨by rfl, ?_⟩) (by assumption) ?_
  · intro w hSw; (try dsimp only at hSw); go_simp <;> (intros; omega)
  simp only [Act.put, List.setIfInBounds_toArray, List.set_cons_zero, List.set_cons_succ]
  refine takeD 1 (some 91) (.slice (some ⟨g, off, none⟩) nl cap) rfl rfl (by kernel_rfl) (by kernel_rfl) (by kernel_rfl) (fun _ _ _ h => h) (Or.inl ⟨by rfl, ?_⟩) (by assumption) ?_
  · intro w hSw; (try dsimp only at hSw); go_simp <;> (intros; omega)
  simp only [Act.put, List.setIfInBounds_toArray, List.set_cons_zero, List.set_cons_succ]
  refine takeD 3 (some 93) (.pointer (some ⟨w.heap.size, 1, none⟩)) rfl rfl (by kernel_rfl) (by kernel_rfl) (by kernel_rfl) (fun _ _ _ h => h) (Or.inl ⟨by rfl, ?_⟩) (by assumption) ?_
  · intro w hSw; (try dsimp only at hSw); go_simp <;> (intros; omega)
  simp only [Act.put, List.setIfInBounds_toArray, List.set_cons_zero, List.set_cons_succ]
  refine takeD 4 (some 94) (.int .i64 (m : Int)) rfl rfl (by kernel_rfl) (by kernel_rfl) (by kernel_rfl) (fun _ _ _ h => h) (Or.inl ⟨by rfl, ?_⟩) (by assumption) ?_
  · intro w hSw; (try dsimp only at hSw); go_simp <;> (intros; omega)
  simp only [Act.put, List.setIfInBounds_toArray, List.set_cons_zero, List.set_cons_succ]
  refine takeD 6 (some 96) (.pointer (some ⟨w.heap.size, 3, none⟩)) rfl rfl (by kernel_rfl) (by kernel_rfl) (by kernel_rfl) (fun _ _ _ h => h) (Or.inl ⟨by rfl, ?_⟩) (by assumption) ?_
  · intro w hSw; (try dsimp only at hSw); go_simp <;> (intros; omega)
  simp only [Act.put, List.setIfInBounds_toArray, List.set_cons_zero, List.set_cons_succ]
  refine takeD 7 (some 97) (.int .i64 (s : Int)) rfl rfl (by kernel_rfl) (by kernel_rfl) (by kernel_rfl) (fun _ _ _ h => h) (Or.inl ⟨by rfl, ?_⟩) (by assumption) ?_
  · intro w hSw; (try dsimp only at hSw); go_simp <;> (intros; omega)
  simp only [Act.put, List.setIfInBounds_toArray, List.set_cons_zero, List.set_cons_succ]
  refine takeD 8 (some 98) (.pointer (some ⟨w.heap.size, 1, none⟩)) rfl rfl (by kernel_rfl) (by kernel_rfl) (by kernel_rfl) (fun _ _ _ h => h) (Or.inl ⟨by rfl, ?_⟩) (by assumption) ?_
  · intro w hSw; (try dsimp only at hSw); go_simp <;> (intros; omega)
  simp only [Act.put, List.setIfInBounds_toArray, List.set_cons_zero, List.set_cons_succ]
  refine takeD 9 (some 99) (.int .i64 (m : Int)) rfl rfl (by kernel_rfl) (by kernel_rfl) (by kernel_rfl) (fun _ _ _ h => h) (Or.inl ⟨by rfl, ?_⟩) (by assumption) ?_
  · intro w hSw; (try dsimp only at hSw); go_simp <;> (intros; omega)
  simp only [Act.put, List.setIfInBounds_toArray, List.set_cons_zero, List.set_cons_succ]
  refine wpAnyH_ready (rs := [2]) (by kernel_rfl) (by simp) ?_
  refine AllReadyH.cons rfl (fun K hK => ?_) AllReadyH.nil
  go_simp
  go_at_call 44; refine (HSI.out _ (show So w _ X Y f m e s (some ⟨g, off, none⟩) L #[.string o, .int .i64 (t0 : Int), .int .i64 c, .int .i64 (g0 : Int), .string d] ((PL.map Value.string).toArray) by first | exact Q0.out | exact Q0.out.drew)).mono ?_; rintro r v1 ⟨rfl, hB⟩; have Q1 := hide' (show So w v1 X Y f m e s (some ⟨g, off, none⟩) L #[.string o, .int .i64 (t0 : Int), .int .i64 c, .int .i64 (g0 : Int), .string d] ((PL.map Value.string).toArray) by first | exact Q0.out.step hB | exact Q0.out.drew.step hB); clear hB
  go_wp2_with fail
  refine hK.out _ _ (QF.out _ Q1.out) (fun hHeld => ?_)
  clear hK K
  try simp only [Act.put, List.setIfInBounds_toArray, List.set_cons_zero, List.set_cons_succ]
  refine wpAnyH_ready (rs := [5]) (by kernel_rfl) (by simp) ?_
  refine AllReadyH.cons rfl (fun K hK => ?_) AllReadyH.nil
  go_simp
  go_at_call 43; refine (HFG.out _).mono ?_; rintro r v2 ⟨rfl, hB⟩; have Q2 := hide' (show So w v2 X Y f m e s (some ⟨g, off, none⟩) L #[.string o, .int .i64 (t0 : Int), .int .i64 c, .int .i64 (g0 : Int), .string d] ((PL.map Value.string).toArray) by first | exact Q1.out.step hB | exact Q1.out.drew.step hB); clear hB
  go_wp2_with fail
  refine hK.out _ _ (QF.out _ Q2.out) (fun hHeld => ?_)
  clear hK K
  try simp only [Act.put, List.setIfInBounds_toArray, List.set_cons_zero, List.set_cons_succ]
  refine wpAnyH_ready (rs := [10]) (by kernel_rfl) (by simp) ?_
  refine AllReadyH.cons rfl (fun K hK => ?_) AllReadyH.nil
  go_simp
  go_at_call 42; refine (HPW.out _).mono ?_; rintro r v3 ⟨rfl, hB⟩; have Q3 := hide' (show So w v3 X Y f m e s (some ⟨g, off, none⟩) L #[.string o, .int .i64 (t0 : Int), .int .i64 c, .int .i64 (g0 : Int), .string d] ((PL.map Value.string).toArray) by first | exact Q2.out.step hB | exact Q2.out.drew.step hB); clear hB
  go_wp2_with fail
  refine hK.out _ _ (QF.out _ Q3.out) (fun hHeld => ?_)
  clear hK K
  try simp only [Act.put, List.setIfInBounds_toArray, List.set_cons_zero, List.set_cons_succ]
  refine takeD 11 (some 17) (.int .i64 (PV : Int)) rfl rfl (by kernel_rfl) (by kernel_rfl) (by kernel_rfl) (fun _ _ _ h => h) (Or.inl ⟨by rfl, ?_⟩) (by assumption) ?_
  · intro w hSw; (try dsimp only at hSw); go_simp <;> (intros; omega)
  simp only [Act.put, List.setIfInBounds_toArray, List.set_cons_zero, List.set_cons_succ]
  refine wpAnyH_done (by kernel_rfl) ?_ _
  go_wp2_with fail
  go_loopw [18, 103] (fun vs iv wr => ∃ (j : Nat) (D : ByteArray), iv = .int .i64 (j : Int) ∧ j ≤ 8 ∧ vs = .string D ∧ Hid (D = catB (PL.take j)) ∧ D.size ≤ j * 255 ∧ Hid (So w wr X Y f m e s (some ⟨g, off, none⟩) L #[.string o, .int .i64 (t0 : Int), .int .i64 c, .int .i64 (g0 : Int), .string d] ((PL.map Value.string).toArray))) (fun _ iv _ => 8 - (intOf iv).toNat)
  case atStart => exact ⟨0, _, rfl, Nat.zero_le _, rfl, by unfold Hid; rfl, (by show 0 ≤ _; omega), by first | exact Q3 | exact Q3.out.drew⟩
  case round =>
    clear Q0 Q1 Q2 Q3
    obtain ⟨j, D, rfl, hj, rfl, HD, hDz, Q5⟩ := hrel
    by_cases hj8 : j < 8
    · have hji : (j : Int) < 8 := by omega
      have hjl : j < PL.length := by omega
      have hcj : wr.cell? ⟨Y, j, none⟩ = some (.string PL[j]) := Q5.out.2.1.cell (by rw [List.getElem?_toArray, List.getElem?_map, List.getElem?_eq_getElem hjl]; rfl)
      have hxz := hps _ (List.getElem_mem hjl)
      have HTK : Hid (catB (PL.take (j + 1)) = D ++ PL[j]) := by unfold Hid; rw [List.take_succ_eq_append_getElem hjl, catB_snoc, ← HD.out]
      generalize PL[j] = y at hcj hxz HTK
      have hs : ∀ W : World, (Op.stringOp .add D y).run Tryz.prog W = .ok (.string (D ++ y)) W := fun W => run_string_add_sum W _ _ (by omega)
      have hz2 : (D ++ y).size ≤ (j + 1) * 255 := by rw [ByteArray.size_append]; omega
      go_wp2_with fail
      exact ⟨⟨j + 1, D ++ y, by go_num, by omega, rfl, HTK.out.symm, hz2, Q5⟩, by simp [intOf]; omega⟩
    · obtain rfl : j = 8 := by omega
      have hall : PL.take 8 = PL := List.take_of_length_le (by omega)
      have hDS : D = S0 := by rw [HD.out, hall, HCAT.out]
      subst hDS
      have QG : Hid (∀ V : World, So w V X Y f m e s (some ⟨g, off, none⟩) L #[.string o, .int .i64 (t0 : Int), .int .i64 c, .int .i64 (g0 : Int), .string d] ((PL.map Value.string).toArray) → V.cell? ⟨X, 0, none⟩ = some (.string o) ∧ V.cell? ⟨X, 3, none⟩ = some (.int .i64 (g0 : Int))) := fun V h => ⟨h.1.2.1.cell rfl, h.1.2.1.cell rfl⟩
      obtain ⟨u0, u3⟩ := QG.out _ Q5.out
      go_wp2_with fail
      refine wp_region_held_drew (S := fun V => V.cell? ⟨X, 0, none⟩ = some (.string o) ∧ V.cell? ⟨X, 3, none⟩ = some (.int .i64 (g0 : Int))) (by kernel_rfl) ?_ (fun hHeld => ?_)
      · (try dsimp only); go_keep
      refine takeD 0 (some 111) (.pointer (some ⟨X, 0, none⟩)) rfl rfl (by kernel_rfl) (by kernel_rfl) (by kernel_rfl) (fun _ _ _ h => h) (Or.inl ⟨by rfl, ?_⟩) (by assumption) ?_
      · intro w hSw; (try dsimp only at hSw); go_simp <;> (intros; omega)
      simp only [Act.put, List.setIfInBounds_toArray, List.set_cons_zero, List.set_cons_succ]
      refine takeD 1 (some 112) (.string o) rfl rfl (by kernel_rfl) (by kernel_rfl) (by kernel_rfl) (fun _ _ _ h => h) (Or.inl ⟨by rfl, ?_⟩) (by assumption) ?_
      · intro w hSw; (try dsimp only at hSw); go_simp <;> (intros; omega)
      simp only [Act.put, List.setIfInBounds_toArray, List.set_cons_zero, List.set_cons_succ]
      refine takeD 2 (some 113) (.pointer (some ⟨X, 3, none⟩)) rfl rfl (by kernel_rfl) (by kernel_rfl) (by kernel_rfl) (fun _ _ _ h => h) (Or.inl ⟨by rfl, ?_⟩) (by assumption) ?_
      · intro w hSw; (try dsimp only at hSw); go_simp <;> (intros; omega)
      simp only [Act.put, List.setIfInBounds_toArray, List.set_cons_zero, List.set_cons_succ]
      refine takeD 3 (some 114) (.int .i64 (g0 : Int)) rfl rfl (by kernel_rfl) (by kernel_rfl) (by kernel_rfl) (fun _ _ _ h => h) (Or.inl ⟨by rfl, ?_⟩) (by assumption) ?_
      · intro w hSw; (try dsimp only at hSw); go_simp <;> (intros; omega)
      simp only [Act.put, List.setIfInBounds_toArray, List.set_cons_zero, List.set_cons_succ]
      refine takeD 4 (some 115) (.string D) rfl rfl (by kernel_rfl) (by kernel_rfl) (by kernel_rfl) (fun _ _ _ h => h) (Or.inl ⟨by rfl, ?_⟩) (by assumption) ?_
      · intro w hSw; (try dsimp only at hSw); go_simp <;> (intros; omega)
      simp only [Act.put, List.setIfInBounds_toArray, List.set_cons_zero, List.set_cons_succ]
      refine takeD 5 (some 116) (.int .i64 (PV : Int)) rfl rfl (by kernel_rfl) (by kernel_rfl) (by kernel_rfl) (fun _ _ _ h => h) (Or.inl ⟨by rfl, ?_⟩) (by assumption) ?_
      · intro w hSw; (try dsimp only at hSw); go_simp <;> (intros; omega)
      simp only [Act.put, List.setIfInBounds_toArray, List.set_cons_zero, List.set_cons_succ]
      refine wpAnyH_ready (rs := [6]) (by kernel_rfl) (by simp) ?_
      refine AllReadyH.cons rfl (fun K hK => ?_) AllReadyH.nil
      go_simp
      go_at_call 37; refine (HY4.out _).mono ?_; rintro r v6 ⟨rfl, hB⟩; have Q6 := hide' (show So w v6 X Y f m e s (some ⟨g, off, none⟩) L #[.string o, .int .i64 (t0 : Int), .int .i64 c, .int .i64 (g0 : Int), .string d] ((PL.map Value.string).toArray) by first | exact Q5.out.step hB | exact Q5.out.drew.step hB); clear hB
      go_wp2_with fail
      refine hK.out _ _ (QG.out _ Q6.out) (fun hHeld => ?_)
      clear hK K
      try simp only [Act.put, List.setIfInBounds_toArray, List.set_cons_zero, List.set_cons_succ]
      refine takeD 7 (some 118) (.string (D ++ B4)) rfl rfl (by kernel_rfl) (by kernel_rfl) (by kernel_rfl) (fun _ _ _ h => h) (Or.inl ⟨by rfl, ?_⟩) (by assumption) ?_
      · intro w hSw; (try dsimp only at hSw); go_simp <;> (intros; omega)
      simp only [Act.put, List.setIfInBounds_toArray, List.set_cons_zero, List.set_cons_succ]
      refine takeD 8 (some 119) (.agg #[.string o, .int .i64 46, .int .i64 1, .int .i64 (g0 : Int), .string (D ++ B4)]) rfl rfl (by kernel_rfl) (by kernel_rfl) (by kernel_rfl) (fun _ _ _ h => h) (Or.inl ⟨by rfl, ?_⟩) (by assumption) ?_
      · intro w hSw; (try dsimp only at hSw); go_simp <;> (intros; omega)
      simp only [Act.put, List.setIfInBounds_toArray, List.set_cons_zero, List.set_cons_succ]
      have HZ6 := hide' Q6.out.1.1.1.2.1
      have hsw : w.heap.size + 2 < X := Q6.out.1.2.2
      have E := ((((Q6.out.1.1.1.2.1.set 0 (.string o)).set 1 (.int .i64 46)).set 2 (.int .i64 1)).set 3 (.int .i64 (g0 : Int))).set 4 (.string (D ++ B4))
      have hXb := (((((Q6.out.1.2.1.grown (grown_set v6 (w.heap.size + 1) 0 (.string o)) (by intro e; injection e with e; omega)).grown (grown_set _ (w.heap.size + 1) 1 (.int .i64 46)) (by intro e; injection e with e; omega)).grown (grown_set _ (w.heap.size + 1) 2 (.int .i64 1)) (by intro e; injection e with e; omega)).grown (grown_set _ (w.heap.size + 1) 3 (.int .i64 (g0 : Int))) (by intro e; injection e with e; omega)).grown (grown_set _ (w.heap.size + 1) 4 (.string (D ++ B4))) (by intro e; injection e with e; omega))
      have j0 := hXb.cell (j := 0) rfl
      have j3 := hXb.cell (j := 3) rfl
      refine wpAnyH_ready (rs := [9]) (by kernel_rfl) (by simp) ?_
      refine AllReadyH.cons rfl (fun K hK => ?_) AllReadyH.nil
      obtain ⟨z0, z1, z2, z3, z4⟩ := Q6.out.1.1.1.zero
      have fr0 := HZ6.out.free 0
      have fr1 := HZ6.out.free 1
      have fr2 := HZ6.out.free 2
      have fr3 := HZ6.out.free 3
      have fr4 := HZ6.out.free 4
      go_simp
      refine hK.out _ _ (by first | exact ⟨j0, j3⟩) (fun hHeld => ?_)
      clear hK K
      try simp only [Act.put, List.setIfInBounds_toArray, List.set_cons_zero, List.set_cons_succ]
      refine takeD 10 (some 11) (.int .i64 0) rfl rfl (by kernel_rfl) (by kernel_rfl) (by kernel_rfl) (fun _ _ _ h => h) (Or.inl ⟨by rfl, ?_⟩) (by assumption) ?_
      · intro w hSw; (try dsimp only at hSw); go_simp <;> (intros; omega)
      simp only [Act.put, List.setIfInBounds_toArray, List.set_cons_zero, List.set_cons_succ]
      refine wpAnyH_done (by kernel_rfl) ?_ _
      have q0 := E.cell (j := 0) (v := .string o) (by simp)
      have q1 := E.cell (j := 1) (v := .int .i64 46) (by simp)
      have q2 := E.cell (j := 2) (v := .int .i64 1) (by simp)
      have q3 := E.cell (j := 3) (v := .int .i64 (g0 : Int)) (by simp)
      have q4 := E.cell (j := 4) (v := .string (D ++ B4)) (by simp)
      have Ed := bx_d8 E
      have p0 := Ed.cell (j := 0) (v := .string o) (by simp)
      have p1 := Ed.cell (j := 1) (v := .int .i64 46) (by simp)
      have p2 := Ed.cell (j := 2) (v := .int .i64 1) (by simp)
      have p3 := Ed.cell (j := 3) (v := .int .i64 (g0 : Int)) (by simp)
      have p4 := Ed.cell (j := 4) (v := .string (D ++ B4)) (by simp)
      have BE := hide' (((((Q6.out.1.1.1.2.2.1.setCell (p := ⟨w.heap.size + 1, 0, none⟩) (Nat.le_succ _) (.string o)).setCell (p := ⟨w.heap.size + 1, 1, none⟩) (Nat.le_succ _) (.int .i64 46)).setCell (p := ⟨w.heap.size + 1, 2, none⟩) (Nat.le_succ _) (.int .i64 1)).setCell (p := ⟨w.heap.size + 1, 3, none⟩) (Nat.le_succ _) (.int .i64 (g0 : Int))).setCell (p := ⟨w.heap.size + 1, 4, none⟩) (Nat.le_succ _) (.string (D ++ B4)))
      go_wp2_with fail
      refine bodyPost_ret (v := .tuple #[.agg #[.string o, .int .i64 46, .int .i64 1, .int .i64 (g0 : Int), .string (D ++ B4)], .int .i64 0]) (by simp [results, go_sem, q0, q1, q2, q3, q4, p0, p1, p2, p3, p4]) rfl ⟨rfl, by first | exact BE.out | exact BE.out.drew⟩
end Go.Proofs.YtennkhdhnbdbeaaGreat

/-
  gazetteerref4.SignSet: where all is right. (The verifier's own text.)
-/
namespace Go.Proofs.YtennkhdhnbdbeaaGreat
set_option linter.unusedVariables false
set_option linter.unusedSimpArgs false
open Go.RowKit Go.Shelf Go.Sort Go.Proofs.YtennkhdhnbdbeaaGreat.Nm

theorem one_two : nB 1 2 = ⟨#[0, 1]⟩ := by decide
theorem eight_parts (t0 l0 g0 u b tg : Nat) (F : ByteArray) : nB t0 2 ++ ⟨#[253]⟩ ++ nB l0 1 ++ nB g0 4 ++ nB u 4 ++ nB b 4 ++ nB tg 2 ++ F = stB t0 253 l0 g0 u b tg F := by
  have h : nB 253 1 = ⟨#[253]⟩ := by rw [nB_alg]; rfl
  unfold stB
  rw [h]
theorem signset_fin (f : Int) (m e s : Nat) (n : ByteArray) (L : List Rn) (g off nl cap X Y : Nat) (w V : World) (o d : ByteArray) (c : Int) (t0 g0 l0 u b tg : Nat) (F T N0 N2 N3 N4 N5 N6 : ByteArray) (hp : 0 < nl) (hL : nl ≤ 1048576) (HNL : Hid (L.length = nl)) (h4 : setOK L = true) (hxe : hdR L = ⟨o, (t0 : Int), c, (g0 : Int), d⟩) (hl : lbI o = (l0 : Int)) (hl1 : l0 < 256) (ht1 : t0 < 65536) (hg1 : g0 < 4294967296) (hu : u < 4294967296) (hb : b < 4294967296) (htz : tg < 65536) (h2 : isN n = true) (hF : foldB n = F) (hT : (⟨(txL (stB t0 253 l0 g0 u b tg F) (ahB l0 g0 o t0) (srt (fdL L))).toArray⟩ : ByteArray) = T) (hTz : T.size ≤ 2097152) (hm : 2 ≤ m) (hm2 : m ≤ 2147483647) (hs : s ≤ 2147483647)
    (HNS : Hid (nB t0 2 = N0 ∧ nB l0 1 = N2 ∧ nB g0 4 = N3 ∧ nB u 4 = N4 ∧ nB b 4 = N5 ∧ nB tg 2 = N6)) (Q0 : Hid (So w V X Y f m e s (some ⟨g, off, none⟩) L #[.string o, .int .i64 (t0 : Int), .int .i64 c, .int .i64 (g0 : Int), .string d] #[.string N0, .string ⟨#[253]⟩, .string N2, .string N3, .string N4, .string N5, .string N6, .string F])) (x0 x1 x3 x4 x6 x7 x8 x9 x11 x12 x13 x14 x17 x18 x19 x20 x21 x22 x23 x24 x25 x26 x27 x28 x29 x30 x31 x32 x33 x34 x35 x36 x37 x38 x39 x40 x41 x42 x43 x44 x45 x46 x47 x48 x49 x50 x51 x52 x53 x54 x55 x56 x57 x58 x59 x60 x61 x62 x63 x64 x65 x66 x67 x68 x69 x70 x71 x72 x73 x74 x75 x76 x77 x78 x79 x80 x81 x82 x83 x84 x85 x86 x87 x88 x89 x90 x91 x92 x93 x94 x95 x96 x97 x98 x99 x100 x101 x102 x103 x104 x105 x106 x107 x108 x109 x110 x111 x112 x113 x114 x115 x116 x117 x118 x119 : Value) :
    Code.wp Tryz.prog (((Tryz.f9.body.map (tailsS 19)).getD []).getD 0 .skip) (bodyPost Tryz.prog Tryz.f9 fun r w' => r = .returned (.tuple #[.agg #[.string o, .int .i64 46, .int .i64 1, .int .i64 (g0 : Int), .string (stB t0 253 l0 g0 u b tg F ++ nB (fgN (digB T) m 10 ^ s % m) 4)], .int .i64 0]) ∧ Below w.heap.size w w') ⟨List.toArray (x0 :: x1 :: (.slice (some ⟨g, off, none⟩) nl cap : Value) :: x3 :: x4 :: (.pointer (some ⟨w.heap.size, 0, none⟩) : Value) :: x6 :: x7 :: x8 :: x9 :: (.pointer (some ⟨w.heap.size + 1, 0, none⟩) : Value) :: x11 :: x12 :: x13 :: x14 :: (.pointer (some ⟨X, 0, none⟩) : Value) :: (.slice (some ⟨Y, 0, none⟩) 8 8 : Value) :: x17 :: x18 :: x19 :: x20 :: x21 :: x22 :: x23 :: x24 :: x25 :: x26 :: x27 :: x28 :: x29 :: x30 :: x31 :: x32 :: x33 :: x34 :: x35 :: x36 :: x37 :: x38 :: x39 :: x40 :: x41 :: x42 :: x43 :: x44 :: x45 :: x46 :: x47 :: x48 :: x49 :: x50 :: x51 :: x52 :: x53 :: x54 :: x55 :: x56 :: x57 :: x58 :: x59 :: x60 :: x61 :: x62 :: x63 :: x64 :: x65 :: x66 :: x67 :: x68 :: x69 :: x70 :: x71 :: x72 :: x73 :: x74 :: x75 :: x76 :: x77 :: x78 :: x79 :: x80 :: x81 :: x82 :: x83 :: x84 :: x85 :: x86 :: x87 :: x88 :: x89 :: x90 :: x91 :: x92 :: x93 :: x94 :: x95 :: x96 :: x97 :: x98 :: x99 :: x100 :: x101 :: x102 :: x103 :: x104 :: x105 :: x106 :: x107 :: x108 :: x109 :: x110 :: x111 :: x112 :: x113 :: x114 :: x115 :: x116 :: x117 :: x118 :: x119 :: []), []⟩ V := by
  obtain ⟨e0, e2, e3, e4, e5, e6⟩ := HNS.out
  subst e0
  subst e2
  subst e3
  subst e4
  subst e5
  subst e6
  obtain ⟨hne46, hx, hall, -⟩ := set_facts h4
  obtain ⟨hz0, -, -⟩ := hall _ hx
  obtain ⟨hoN, -⟩ := zon_of hz0
  have hoN2 : isN o = true := by rw [hxe] at hoN; exact hoN
  have hFz : F.size ≤ 255 := by rw [← hF]; exact foldB_small _
  have hFF : foldB F = F := by rw [← hF]; exact fold_fold h2
  have z4 : ∀ v, (nB v 4).size = 4 := fun v => nB_size v 4
  have z2 : ∀ v, (nB v 2).size = 2 := fun v => nB_size v 2
  have z1 : ∀ v, (nB v 1).size = 1 := fun v => nB_size v 1
  have z8 : (⟨#[253]⟩ : ByteArray).size = 1 := rfl
  refine signset_tail f m e s L g off nl cap X Y w V o d c t0 g0 (fgN (digB T) m 10) (fgN (digB T) m 10 ^ s % m) T (stB t0 253 l0 g0 u b tg F) (nB (fgN (digB T) m 10 ^ s % m) 4) [nB t0 2, ⟨#[253]⟩, nB l0 1, nB g0 4, nB u 4, nB b 4, nB tg 2, F] rfl (cat_stamp _ _ _ _ _ _ _) ?_ Q0 ?_ (fun W => figure_any2 T m W hTz (by omega) hm2) (fun W => (refPower_any (fgN (digB T) m 10) m hm hm2 (by have := fgN_lt (digB T) m (by omega) 10; omega) s W hs).mono (fun r w' h => ⟨h.1, by rw [h.2]; exact Below.refl _ _⟩)) (fun W => refBytes_any 4 _ W (by omega) (by have : fgN (digB T) m 10 ^ s % m < m := Nat.mod_lt _ (by omega); omega)) (fun W => run_string_add_sum W _ _ (by unfold stB; simp only [ByteArray.size_append, nB_size]; omega)) x0 x1 x3 x4 x6 x7 x8 x9 x11 x12 x13 x14 x17 x18 x19 x20 x21 x22 x23 x24 x25 x26 x27 x28 x29 x30 x31 x32 x33 x34 x35 x36 x37 x38 x39 x40 x41 x42 x43 x44 x45 x46 x47 x48 x49 x50 x51 x52 x53 x54 x55 x56 x57 x58 x59 x60 x61 x62 x63 x64 x65 x66 x67 x68 x69 x70 x71 x72 x73 x74 x75 x76 x77 x78 x79 x80 x81 x82 x83 x84 x85 x86 x87 x88 x89 x90 x91 x92 x93 x94 x95 x96 x97 x98 x99 x100 x101 x102 x103 x104 x105 x106 x107 x108 x109 x110 x111 x112 x113 x114 x115 x116 x117 x118 x119
  · intro x hx
    simp only [List.mem_cons, List.not_mem_nil, or_false] at hx
    rcases hx with rfl | rfl | rfl | rfl | rfl | rfl | rfl | rfl <;> first | (rw [nB_size]; omega) | exact hFz | (rw [z8]; omega)
  · intro W hW
    have h9 := refSigned_any L g off nl cap Y 0 8 t0 l0 (nB t0 2) ⟨#[253]⟩ (nB l0 1) (nB g0 4) (nB u 4) (nB b 4) (nB tg 2) F (ahB l0 g0 o t0) W hp hL HNL hW.1.1.1.2.2.2 ⟨hW.2.1.lt, hW.2.1.cell rfl, hW.2.1.cell rfl, hW.2.1.cell rfl, hW.2.1.cell rfl, hW.2.1.cell rfl, hW.2.1.cell rfl, hW.2.1.cell rfl, hW.2.1.cell rfl⟩ (by unfold Hid; rw [hxe]) ht1 (fun r hr => ⟨by have := (zon_of (hall r hr).1).2.2.2.2.2.2.2; omega, (zon_of (hall r hr).1).2.2.2.2.1⟩) (by unfold Hid; rw [hxe]; exact hoN2) (by rw [z2, z8, z1, z4, z4, z4, z2]; omega) (by rw [z1]; omega) (by rw [z4]; omega) (by omega) (by unfold Hid; rw [z1]; exact vN_nB (by omega)) (by unfold Hid; rw [hxe, ow_same hoN2]; unfold ahB; rw [one_two])
    rw [hFF, eight_parts, hT] at h9
    exact h9
set_option maxRecDepth 100000 in
set_option maxHeartbeats 8000000 in
theorem signset_yes (f : Int) (m e s : Nat) (n : ByteArray) (L : List Rn) (p : Option Addr) (cap : Nat) (b u : Nat) (w : World) (o d : ByteArray) (c : Int) (t0 g0 l0 tg : Nat) (F T : ByteArray) (hn : n.size ≤ 1048576) (hL : L.length ≤ 1048576) (hat : RsAt w p L) (hz : ∀ r ∈ L, r.o.size ≤ 1048576 ∧ r.d.size ≤ 9223372036854775807) (hxe : hdR L = ⟨o, (t0 : Int), c, (g0 : Int), d⟩)
    (h1 : rkB f m e s = true) (h2 : isN n = true) (hbu : b ≤ u) (hu : u ≤ 4294967295) (h4 : setOK L = true) (h5 : oneAge L = true) (h6 : withinB o n = true) (ht1 : t0 < 65536) (hg1 : g0 < 4294967296) (hl : lbI o = (l0 : Int)) (hl1 : l0 < 256) (htg : tagN (pubB f m e s) = tg) (hF : foldB n = F) (hT : (⟨(txL (stB t0 253 l0 g0 u b tg F) (ahB l0 g0 o t0) (srt (fdL L))).toArray⟩ : ByteArray) = T) (hTz : T.size ≤ 2097152) (hm2 : m ≤ 2147483647) (hm : 2 ≤ m) (hs : s ≤ 2147483647) :
    Calls Tryz.prog 9 #[.agg #[.int .i64 f, .int .i64 (m : Int), .int .i64 (e : Int), .int .i64 (s : Int)], .string n, .slice p L.length cap, .int .i64 (b : Int), .int .i64 (u : Int)] w fun r w' => r = .returned (.tuple #[.agg #[.string o, .int .i64 46, .int .i64 1, .int .i64 (g0 : Int), .string (stB t0 253 l0 g0 u b tg F ++ nB (fgN (digB T) m 10 ^ s % m) 4)], .int .i64 0]) ∧ Below w.heap.size w w' := by
  have hp := setOK_pos h4
  have hb : ¬ (b : Int) < 0 := by omega
  have hb2 : ¬ (u : Int) < (b : Int) := by omega
  have hb3 : ¬ 4294967295 < (u : Int) := by omega
  have HXE := hide' hxe
  have hFz : F.size ≤ 255 := by rw [← hF]; exact foldB_small _
  have htz : tg < 65536 := by rw [← htg]; exact tagN_lt _
  have hoz : o.size ≤ 1048576 := by have := (hz _ (List.getElem_mem hp)).1; rw [hdR_eq hp, hxe] at this; exact this
  have HY0 := hide' (fun W => refBytes_any 2 t0 W (by omega) (by omega))
  have HY2 := hide' (fun W => refBytes_any 1 l0 W (by omega) (by omega))
  have HY3 := hide' (fun W => refBytes_any 4 g0 W (by omega) (by omega))
  have HY4 := hide' (fun W => refBytes_any 4 u W (by omega) (by omega))
  have HY5 := hide' (fun W => refBytes_any 4 b W (by omega) (by omega))
  have HY6 := hide' (fun W => refBytes_any 2 tg W (by omega) (by omega))
  have HSL := hide' (fun W => starless_any o W hoz)
  rw [hl] at HSL
  have HPU := hide' (fun W => refPublic_any f m e s W)
  have HTG := hide' (fun W => refTag_any (pubB f m e s) W (pub_small _ _ _ _))
  rw [htg] at HTG
  have HFN := hide' (fun W => foldName_any n W hn)
  rw [hF] at HFN
  obtain ⟨N0, hN0⟩ : ∃ N0, nB t0 2 = N0 := ⟨_, rfl⟩
  obtain ⟨N2, hN2⟩ : ∃ N2, nB l0 1 = N2 := ⟨_, rfl⟩
  obtain ⟨N3, hN3⟩ : ∃ N3, nB g0 4 = N3 := ⟨_, rfl⟩
  obtain ⟨N4, hN4⟩ : ∃ N4, nB u 4 = N4 := ⟨_, rfl⟩
  obtain ⟨N5, hN5⟩ : ∃ N5, nB b 4 = N5 := ⟨_, rfl⟩
  obtain ⟨N6, hN6⟩ : ∃ N6, nB tg 2 = N6 := ⟨_, rfl⟩
  rw [hN0] at HY0
  rw [hN2] at HY2
  rw [hN3] at HY3
  rw [hN4] at HY4
  rw [hN5] at HY5
  rw [hN6] at HY6
  have HNS := hide' (And.intro hN0 (And.intro hN2 (And.intro hN3 (And.intro hN4 (And.intro hN5 hN6)))))
  clear hN0 hN2 hN3 hN4 hN5 hN6
  have HTAIL := hide' (fun (g off : Nat) (hg : g < w.heap.size) (hpe : p = some ⟨g, off, none⟩) (nl X Y : Nat) (V : World) (hnl : Hid (L.length = nl)) (Q0 : Hid (So w V X Y f m e s (some ⟨g, off, none⟩) L #[.string o, .int .i64 (t0 : Int), .int .i64 c, .int .i64 (g0 : Int), .string d] #[.string N0, .string ⟨#[253]⟩, .string N2, .string N3, .string N4, .string N5, .string N6, .string F])) => signset_fin f m e s n L g off nl cap X Y w V o d c t0 g0 l0 u b tg F T N0 N2 N3 N4 N5 N6 (by rw [← hnl.out]; exact setOK_pos h4) (by rw [← hnl.out]; exact hL) hnl h4 hxe hl hl1 ht1 hg1 (by omega) (by omega) htz h2 hF hT hTz hm hm2 hs HNS Q0)
  have ST0 := hide' (Sn.start w f m e s p L hat)
  have HI := hide' (fun w => refRight_any f m e s w)
  have HC := hide' (fun w => refIsName_any n w hn)
  have HS := hide' (fun W (h : RsAt W p L) => refIsSet_any L p cap W hL h hz)
  have HWI := hide' (fun W => refWithin_any o n W hoz hn)
  rw [h6] at HWI
  rw [h1] at HI
  rw [h2] at HC
  rw [h4] at HS
  obtain ⟨k0, k1, k2, k3⟩ := ST0.out.1.keys
  obtain ⟨nl, hnl⟩ : ∃ nl, L.length = nl := ⟨_, rfl⟩
  have HNL := hide' hnl
  rw [hnl] at hL HS hp ⊢
  obtain ⟨g, off, hpp, hgl, -⟩ := hat 0 (by omega)
  subst hpp
  have hni : (0 : Int) < (nl : Int) := by omega
  clear hat hz h1 h2 h4 h6 hnl hxe hl htg hF hoz
  go_enter Tryz.func9, Tryz.ntmps9
  go_wp2_with (first
    | (go_at_call 33; refine (HI.out _).mono ?_; rintro r w1 ⟨rfl, hB⟩; have ST1 := hide' (ST0.out.step hB); clear hB k0 k1 k2 k3)
    | (go_at_call 34; refine (HC.out _).mono ?_; rintro r w2 ⟨rfl, hB⟩; have ST2 := hide' (ST1.out.step hB); clear hB)
    | (go_at_call 35; refine (HS.out _ ST2.out.1.2.2.2).mono ?_; rintro r w3 ⟨rfl, hB⟩; have ST3 := hide' (ST2.out.step hB); clear hB))
  clear HI HC HS ST0 ST1 ST2
  go_loopw [47] (fun iv wr => ∃ k : Nat, iv = .int .i64 (k : Int) ∧ k ≤ nl ∧ Hid (∀ i, (hi : i < L.length) → i < k → L[i].l = (hdR L).l) ∧ Hid (Sn w wr f m e s (some ⟨g, off, none⟩) L)) (fun iv _ => nl - (intOf iv).toNat)
  case atStart => exact ⟨0, rfl, Nat.zero_le _, (fun i _ h => absurd h (Nat.not_lt_zero _)), ST3⟩
  case round =>
    clear ST3
    obtain ⟨k, rfl, hk, AK, SK⟩ := hrel
    by_cases hlt : k < nl
    · have hki : (k : Int) < (nl : Int) := by omega
      have hkl : k < L.length := by rw [HNL.out]; exact hlt
      have h0l : 0 < L.length := by rw [HNL.out]; exact hp
      obtain ⟨g', off', hq, _, e0, e1, e2, e3, e4⟩ := SK.out.1.2.2.2 k hkl
      injection hq with hq
      injection hq with hq1 hq2
      subst hq1
      subst hq2
      obtain ⟨g', off', hq, _, -, -, -, a3, -⟩ := SK.out.1.2.2.2 0 h0l
      injection hq with hq
      injection hq with hq1 hq2
      subst hq1
      subst hq2
      rw [Nat.zero_mul, Nat.add_zero, hdR_eq h0l] at a3
      have HAN := hide' (age_no hkl)
      have HAS : Hid (L[k].l = (hdR L).l → ∀ i, (hi : i < L.length) → i < k + 1 → L[i].l = (hdR L).l) := fun h i hi hik => by
        rcases Nat.lt_or_ge i k with h5 | h5
        · exact AK.out i hi h5
        · obtain rfl : i = k := by omega
          exact h
      obtain ⟨x, hx⟩ : ∃ x, L[k] = x := ⟨_, rfl⟩
      obtain ⟨l0, hl0⟩ : ∃ l0, (hdR L).l = l0 := ⟨_, rfl⟩
      simp only [hx, hl0] at e0 e1 e2 e3 e4 a3 HAN HAS
      have HL0 := hide' hl0
      clear hx hl0
      obtain ⟨o', t', c', l, d'⟩ := x
      simp only at e0 e1 e2 e3 e4 HAN HAS
      obtain ⟨W1, hW1⟩ : ∃ W1, wr.alloc (.cells #[.string o', .int .i64 t', .int .i64 c', .int .i64 l, .string d'] 27) = W1 := ⟨_, rfl⟩
      have hb1 : Below wr.heap.size wr W1 := by rw [← hW1]; exact (Below.refl _ _).alloc (Nat.le_refl _) _
      have hx1 : Bx (wr.alloc (.cells #[.string o', .int .i64 t', .int .i64 c', .int .i64 l, .string d'] 27)) wr.heap.size #[.string o', .int .i64 t', .int .i64 c', .int .i64 l, .string d'] 27 := World.alloc_heap_new wr _
      rw [hW1] at hx1
      have q3' := hx1.cell (j := 3) rfl
      have S1 := hide' (SK.out.step hb1)
      have b3 : W1.cell? ⟨g, off + 3, none⟩ = some (.int .i64 l0) := by
        rw [hb1.cell (p := ⟨g, off + 3, none⟩) (Nat.lt_of_lt_of_le hgl SK.out.1.2.2.1.size)]; exact a3
      clear hx1 hb1
      by_cases hll : l = l0
      · have HAS2 := hide' (HAS.out hll)
        have hlb : (l != l0) = false := by rw [hll]; simp
        subst hll
        clear HAN HAS
        go_wp2_with fail
        go_region_with (fail)
        all_goals
          go_wp2_with fail
          refine ⟨⟨k + 1, by go_num, by omega, (by unfold Hid; rw [HL0.out]; exact HAS2.out), by first | exact S1 | exact S1.out.drew⟩, by simp [intOf]; omega⟩
      · have HBAD := hide' (HAN.out hll)
        rw [HBAD.out] at h5
        cases h5
    · obtain rfl : k = nl := by omega
      have HYES : Hid (oneAge L = true) := age_yes (by rw [HNL.out]; exact hp) (fun i hi => AK.out i hi (by have := HNL.out; omega))
      have h0l : 0 < L.length := by rw [HNL.out]; exact hp
      obtain ⟨g', off', hq, _, e0, e1, e2, e3, e4⟩ := SK.out.1.2.2.2 0 h0l
      injection hq with hq
      injection hq with hq1 hq2
      subst hq1
      subst hq2
      rw [Nat.zero_mul, Nat.add_zero, hdR_eq h0l, HXE.out] at e0 e1 e2 e3 e4
      obtain ⟨X, hX⟩ : ∃ X, wr.heap.size = X := ⟨_, rfl⟩
      have S1 : Hid (Sl w (wr.alloc (.cells #[.string o, .int .i64 (t0 : Int), .int .i64 c, .int .i64 (g0 : Int), .string d] 27)) wr.heap.size f m e s (some ⟨g, off, none⟩) L #[.string o, .int .i64 (t0 : Int), .int .i64 c, .int .i64 (g0 : Int), .string d]) := ⟨SK.out.step ((Below.refl _ wr).alloc (Nat.le_refl _) _), World.alloc_heap_new wr _, SK.out.2.lt⟩
      go_upto_region 19 with (go_at_call 36; refine (HWI.out _).mono ?_; rintro r va ⟨rfl, hB⟩; have Qa0 := hide' (S1.out.step hB); clear hB)
      rename_i KK hKK
      have HKK := hide' hKK
      clear hKK
      have Qa : Hid (Sl w va X f m e s (some ⟨g, off, none⟩) L #[.string o, .int .i64 (t0 : Int), .int .i64 c, .int .i64 (g0 : Int), .string d]) := by rw [← hX]; exact Qa0.out
      try simp only [hX]
      have QF : Hid (∀ V : World, Sl w V X f m e s (some ⟨g, off, none⟩) L #[.string o, .int .i64 (t0 : Int), .int .i64 c, .int .i64 (g0 : Int), .string d] → V.cell? ⟨X, 0, none⟩ = some (.string o) ∧ V.cell? ⟨X, 1, none⟩ = some (.int .i64 (t0 : Int)) ∧ V.cell? ⟨X, 3, none⟩ = some (.int .i64 (g0 : Int)) ∧ V.cell? ⟨w.heap.size, 0, none⟩ = some (.int .i64 f) ∧ V.cell? ⟨w.heap.size, 1, none⟩ = some (.int .i64 (m : Int)) ∧ V.cell? ⟨w.heap.size, 2, none⟩ = some (.int .i64 (e : Int)) ∧ V.cell? ⟨w.heap.size, 3, none⟩ = some (.int .i64 (s : Int))) := fun V h => ⟨h.2.1.cell rfl, h.2.1.cell rfl, h.2.1.cell rfl, h.1.1.1.cell rfl, h.1.1.1.cell rfl, h.1.1.1.cell rfl, h.1.1.1.cell rfl⟩
      clear e0 e1 e2 e3 e4 S1 Qa0 hX SK AK HYES
      obtain ⟨c0, c1, c3, k0, k1, k2, k3⟩ := QF.out _ Qa.out
      refine wp_region_held_drew (S := fun V => V.cell? ⟨X, 0, none⟩ = some (.string o) ∧ V.cell? ⟨X, 1, none⟩ = some (.int .i64 (t0 : Int)) ∧ V.cell? ⟨X, 3, none⟩ = some (.int .i64 (g0 : Int)) ∧ V.cell? ⟨w.heap.size, 0, none⟩ = some (.int .i64 f) ∧ V.cell? ⟨w.heap.size, 1, none⟩ = some (.int .i64 (m : Int)) ∧ V.cell? ⟨w.heap.size, 2, none⟩ = some (.int .i64 (e : Int)) ∧ V.cell? ⟨w.heap.size, 3, none⟩ = some (.int .i64 (s : Int))) (by kernel_rfl) ?_ (fun hHeld => ?_)
      · (try dsimp only); go_keep
      refine takeD 0 (some 69) (.pointer (some ⟨X, 1, none⟩)) rfl rfl (by kernel_rfl) (by kernel_rfl) (by kernel_rfl) (fun _ _ _ h => h) (Or.inl ⟨by rfl, ?_⟩) (by assumption) ?_
      · intro w hSw; (try dsimp only at hSw); go_simp <;> (intros; omega)
      simp only [Act.put, List.setIfInBounds_toArray, List.set_cons_zero, List.set_cons_succ]
      refine takeD 1 (some 70) (.int .i64 (t0 : Int)) rfl rfl (by kernel_rfl) (by kernel_rfl) (by kernel_rfl) (fun _ _ _ h => h) (Or.inl ⟨by rfl, ?_⟩) (by assumption) ?_
      · intro w hSw; (try dsimp only at hSw); go_simp <;> (intros; omega)
      simp only [Act.put, List.setIfInBounds_toArray, List.set_cons_zero, List.set_cons_succ]
      refine takeD 3 (some 72) (.pointer (some ⟨X, 0, none⟩)) rfl rfl (by kernel_rfl) (by kernel_rfl) (by kernel_rfl) (fun _ _ _ h => h) (Or.inl ⟨by rfl, ?_⟩) (by assumption) ?_
      · intro w hSw; (try dsimp only at hSw); go_simp <;> (intros; omega)
      simp only [Act.put, List.setIfInBounds_toArray, List.set_cons_zero, List.set_cons_succ]
      refine takeD 4 (some 73) (.string o) rfl rfl (by kernel_rfl) (by kernel_rfl) (by kernel_rfl) (fun _ _ _ h => h) (Or.inl ⟨by rfl, ?_⟩) (by assumption) ?_
      · intro w hSw; (try dsimp only at hSw); go_simp <;> (intros; omega)
      simp only [Act.put, List.setIfInBounds_toArray, List.set_cons_zero, List.set_cons_succ]
      refine takeD 7 (some 76) (.pointer (some ⟨X, 3, none⟩)) rfl rfl (by kernel_rfl) (by kernel_rfl) (by kernel_rfl) (fun _ _ _ h => h) (Or.inl ⟨by rfl, ?_⟩) (by assumption) ?_
      · intro w hSw; (try dsimp only at hSw); go_simp <;> (intros; omega)
      simp only [Act.put, List.setIfInBounds_toArray, List.set_cons_zero, List.set_cons_succ]
      refine takeD 8 (some 77) (.int .i64 (g0 : Int)) rfl rfl (by kernel_rfl) (by kernel_rfl) (by kernel_rfl) (fun _ _ _ h => h) (Or.inl ⟨by rfl, ?_⟩) (by assumption) ?_
      · intro w hSw; (try dsimp only at hSw); go_simp <;> (intros; omega)
      simp only [Act.put, List.setIfInBounds_toArray, List.set_cons_zero, List.set_cons_succ]
      refine takeD 10 (some 79) (.int .i64 (u : Int)) rfl rfl (by kernel_rfl) (by kernel_rfl) (by kernel_rfl) (fun _ _ _ h => h) (Or.inl ⟨by rfl, ?_⟩) (by assumption) ?_
      · intro w hSw; (try dsimp only at hSw); go_simp <;> (intros; omega)
      simp only [Act.put, List.setIfInBounds_toArray, List.set_cons_zero, List.set_cons_succ]
      refine takeD 12 (some 81) (.int .i64 (b : Int)) rfl rfl (by kernel_rfl) (by kernel_rfl) (by kernel_rfl) (fun _ _ _ h => h) (Or.inl ⟨by rfl, ?_⟩) (by assumption) ?_
      · intro w hSw; (try dsimp only at hSw); go_simp <;> (intros; omega)
      simp only [Act.put, List.setIfInBounds_toArray, List.set_cons_zero, List.set_cons_succ]
      refine takeD 14 (some 83) (.agg #[.int .i64 f, .int .i64 (m : Int), .int .i64 (e : Int), .int .i64 (s : Int)]) rfl rfl (by kernel_rfl) (by kernel_rfl) (by kernel_rfl) (fun _ _ _ h => h) (Or.inl ⟨by rfl, ?_⟩) (by assumption) ?_
      · intro w hSw; (try dsimp only at hSw); go_simp <;> (intros; omega)
      simp only [Act.put, List.setIfInBounds_toArray, List.set_cons_zero, List.set_cons_succ]
      refine takeD 18 (some 87) (.string n) rfl rfl (by kernel_rfl) (by kernel_rfl) (by kernel_rfl) (fun _ _ _ h => h) (Or.inl ⟨by rfl, ?_⟩) (by assumption) ?_
      · intro w hSw; (try dsimp only at hSw); go_simp <;> (intros; omega)
      simp only [Act.put, List.setIfInBounds_toArray, List.set_cons_zero, List.set_cons_succ]
      refine wpAnyH_ready (rs := [2]) (by kernel_rfl) (by simp) ?_
      refine AllReadyH.cons rfl (fun K hK => ?_) AllReadyH.nil
      go_simp
      go_at_call 37; refine (HY0.out _).mono ?_; rintro r vb ⟨rfl, hB⟩; have Qb := hide' (show Sl w vb X f m e s (some ⟨g, off, none⟩) L #[.string o, .int .i64 (t0 : Int), .int .i64 c, .int .i64 (g0 : Int), .string d] by first | exact Qa.out.step hB | exact Qa.out.drew.step hB); clear hB
      go_wp2_with fail
      refine hK.out _ _ (QF.out _ Qb.out) (fun hHeld => ?_)
      clear hK K
      try simp only [Act.put, List.setIfInBounds_toArray, List.set_cons_zero, List.set_cons_succ]
      refine wpAnyH_ready (rs := [5]) (by kernel_rfl) (by simp) ?_
      refine AllReadyH.cons rfl (fun K hK => ?_) AllReadyH.nil
      go_simp
      go_at_call 38; refine (HSL.out _).mono ?_; rintro r vc ⟨rfl, hB⟩; have Qc := hide' (show Sl w vc X f m e s (some ⟨g, off, none⟩) L #[.string o, .int .i64 (t0 : Int), .int .i64 c, .int .i64 (g0 : Int), .string d] by first | exact Qb.out.step hB | exact Qb.out.drew.step hB); clear hB
      go_wp2_with fail
      refine hK.out _ _ (QF.out _ Qc.out) (fun hHeld => ?_)
      clear hK K
      try simp only [Act.put, List.setIfInBounds_toArray, List.set_cons_zero, List.set_cons_succ]
      refine wpAnyH_ready (rs := [6]) (by kernel_rfl) (by simp) ?_
      refine AllReadyH.cons rfl (fun K hK => ?_) AllReadyH.nil
      go_simp
      go_at_call 37; refine (HY2.out _).mono ?_; rintro r vd ⟨rfl, hB⟩; have Qd := hide' (show Sl w vd X f m e s (some ⟨g, off, none⟩) L #[.string o, .int .i64 (t0 : Int), .int .i64 c, .int .i64 (g0 : Int), .string d] by first | exact Qc.out.step hB | exact Qc.out.drew.step hB); clear hB
      go_wp2_with fail
      refine hK.out _ _ (QF.out _ Qd.out) (fun hHeld => ?_)
      clear hK K
      try simp only [Act.put, List.setIfInBounds_toArray, List.set_cons_zero, List.set_cons_succ]
      refine wpAnyH_ready (rs := [9]) (by kernel_rfl) (by simp) ?_
      refine AllReadyH.cons rfl (fun K hK => ?_) AllReadyH.nil
      go_simp
      go_at_call 37; refine (HY3.out _).mono ?_; rintro r ve ⟨rfl, hB⟩; have Qe := hide' (show Sl w ve X f m e s (some ⟨g, off, none⟩) L #[.string o, .int .i64 (t0 : Int), .int .i64 c, .int .i64 (g0 : Int), .string d] by first | exact Qd.out.step hB | exact Qd.out.drew.step hB); clear hB
      go_wp2_with fail
      refine hK.out _ _ (QF.out _ Qe.out) (fun hHeld => ?_)
      clear hK K
      try simp only [Act.put, List.setIfInBounds_toArray, List.set_cons_zero, List.set_cons_succ]
      refine wpAnyH_ready (rs := [11]) (by kernel_rfl) (by simp) ?_
      refine AllReadyH.cons rfl (fun K hK => ?_) AllReadyH.nil
      go_simp
      go_at_call 37; refine (HY4.out _).mono ?_; rintro r vf ⟨rfl, hB⟩; have Qf := hide' (show Sl w vf X f m e s (some ⟨g, off, none⟩) L #[.string o, .int .i64 (t0 : Int), .int .i64 c, .int .i64 (g0 : Int), .string d] by first | exact Qe.out.step hB | exact Qe.out.drew.step hB); clear hB
      go_wp2_with fail
      refine hK.out _ _ (QF.out _ Qf.out) (fun hHeld => ?_)
      clear hK K
      try simp only [Act.put, List.setIfInBounds_toArray, List.set_cons_zero, List.set_cons_succ]
      refine wpAnyH_ready (rs := [13]) (by kernel_rfl) (by simp) ?_
      refine AllReadyH.cons rfl (fun K hK => ?_) AllReadyH.nil
      go_simp
      go_at_call 37; refine (HY5.out _).mono ?_; rintro r vg ⟨rfl, hB⟩; have Qg := hide' (show Sl w vg X f m e s (some ⟨g, off, none⟩) L #[.string o, .int .i64 (t0 : Int), .int .i64 c, .int .i64 (g0 : Int), .string d] by first | exact Qf.out.step hB | exact Qf.out.drew.step hB); clear hB
      go_wp2_with fail
      refine hK.out _ _ (QF.out _ Qg.out) (fun hHeld => ?_)
      clear hK K
      try simp only [Act.put, List.setIfInBounds_toArray, List.set_cons_zero, List.set_cons_succ]
      refine wpAnyH_ready (rs := [15]) (by kernel_rfl) (by simp) ?_
      refine AllReadyH.cons rfl (fun K hK => ?_) AllReadyH.nil
      go_simp
      go_at_call 40; refine (HPU.out _).mono ?_; rintro r vh ⟨rfl, hB⟩; have Qh := hide' (show Sl w vh X f m e s (some ⟨g, off, none⟩) L #[.string o, .int .i64 (t0 : Int), .int .i64 c, .int .i64 (g0 : Int), .string d] by first | exact Qg.out.step hB | exact Qg.out.drew.step hB); clear hB
      go_wp2_with fail
      refine hK.out _ _ (QF.out _ Qh.out) (fun hHeld => ?_)
      clear hK K
      try simp only [Act.put, List.setIfInBounds_toArray, List.set_cons_zero, List.set_cons_succ]
      refine wpAnyH_ready (rs := [16]) (by kernel_rfl) (by simp) ?_
      refine AllReadyH.cons rfl (fun K hK => ?_) AllReadyH.nil
      go_simp
      go_at_call 39; refine (HTG.out _).mono ?_; rintro r vi ⟨rfl, hw⟩; have Qi := hide' (show Sl w vi X f m e s (some ⟨g, off, none⟩) L #[.string o, .int .i64 (t0 : Int), .int .i64 c, .int .i64 (g0 : Int), .string d] by first | (rw [hw]; exact Qh.out) | (rw [hw]; exact Qh.out.drew)); clear hw
      go_wp2_with fail
      refine hK.out _ _ (QF.out _ Qi.out) (fun hHeld => ?_)
      clear hK K
      try simp only [Act.put, List.setIfInBounds_toArray, List.set_cons_zero, List.set_cons_succ]
      refine wpAnyH_ready (rs := [17]) (by kernel_rfl) (by simp) ?_
      refine AllReadyH.cons rfl (fun K hK => ?_) AllReadyH.nil
      go_simp
      go_at_call 37; refine (HY6.out _).mono ?_; rintro r vj ⟨rfl, hB⟩; have Qj := hide' (show Sl w vj X f m e s (some ⟨g, off, none⟩) L #[.string o, .int .i64 (t0 : Int), .int .i64 c, .int .i64 (g0 : Int), .string d] by first | exact Qi.out.step hB | exact Qi.out.drew.step hB); clear hB
      go_wp2_with fail
      refine hK.out _ _ (QF.out _ Qj.out) (fun hHeld => ?_)
      clear hK K
      try simp only [Act.put, List.setIfInBounds_toArray, List.set_cons_zero, List.set_cons_succ]
      refine wpAnyH_ready (rs := [19]) (by kernel_rfl) (by simp) ?_
      refine AllReadyH.cons rfl (fun K hK => ?_) AllReadyH.nil
      go_simp
      go_at_call 41; refine (HFN.out _).mono ?_; rintro r vk ⟨rfl, hB⟩; have Qk := hide' (show Sl w vk X f m e s (some ⟨g, off, none⟩) L #[.string o, .int .i64 (t0 : Int), .int .i64 c, .int .i64 (g0 : Int), .string d] by first | exact Qj.out.step hB | exact Qj.out.drew.step hB); clear hB
      go_wp2_with fail
      refine hK.out _ _ (QF.out _ Qk.out) (fun hHeld => ?_)
      clear hK K
      try simp only [Act.put, List.setIfInBounds_toArray, List.set_cons_zero, List.set_cons_succ]
      refine wpAnyH_ready (rs := [20]) (by kernel_rfl) (by simp) ?_
      refine AllReadyH.cons rfl (fun K hK => ?_) AllReadyH.nil
      go_simp
      obtain ⟨Wz, hWz⟩ : ∃ Wz, World.alloc vk (.cells #[.string N0, .string ⟨#[253]⟩, .string N2, .string N3, .string N4, .string N5, .string N6, .string F] 9) = Wz := ⟨_, rfl⟩
      obtain ⟨Y, hY⟩ : ∃ Y, (World.heap vk).size = Y := ⟨_, rfl⟩
      have P0 : Hid (So w Wz X Y f m e s (some ⟨g, off, none⟩) L #[.string o, .int .i64 (t0 : Int), .int .i64 c, .int .i64 (g0 : Int), .string d] #[.string N0, .string ⟨#[253]⟩, .string N2, .string N3, .string N4, .string N5, .string N6, .string F]) := by rw [← hWz, ← hY]; exact So.start Qk.out _
      simp only [hWz, hY]
      clear hWz hY
      refine hK.out _ _ (by first | exact QF.out _ P0.out.1 | exact QF.out _ P0.out.drew.1) (fun hHeld => ?_)
      clear hK K
      try simp only [Act.put, List.setIfInBounds_toArray, List.set_cons_zero, List.set_cons_succ]
      refine takeD 21 (some 16) (.slice (some ⟨Y, 0, none⟩) 8 8) rfl rfl (by kernel_rfl) (by kernel_rfl) (by kernel_rfl) (fun _ _ _ h => h) (Or.inl ⟨by rfl, ?_⟩) (by assumption) ?_
      · intro w hSw; (try dsimp only at hSw); go_simp <;> (intros; omega)
      simp only [Act.put, List.setIfInBounds_toArray, List.set_cons_zero, List.set_cons_succ]
      refine wpAnyH_done (by kernel_rfl) ?_ _
      go_wp2_with fail
      refine HKK.out _ _ ?_
      exact HTAIL.out g off hgl rfl k X Y _ HNL P0 _ _ _ _ _ _ _ _ _ _ _ _ _ _ _ _ _ _ _ _ _ _ _ _ _ _ _ _ _ _ _ _ _ _ _ _ _ _ _ _ _ _ _ _ _ _ _ _ _ _ _ _ _ _ _ _ _ _ _ _ _ _ _ _ _ _ _ _ _ _ _ _ _ _ _ _ _ _ _ _ _ _ _ _ _ _ _ _ _ _ _ _ _ _ _ _ _ _ _ _ _ _ _ _ _ _ _ _ _ _ _ _ _ _ _

end Go.Proofs.YtennkhdhnbdbeaaGreat
