import Derived.Test.YtennkhdhnbdbeaaGreatSf1G
import Derived.Test.YtennkhdhnbdbeaaGreatLowG
import Derived.Test.YtennkhdhnbdbeaaGreatSg3G
import Derived.Test.YtennkhdhnbdbeaaGreatSf2G
import Derived.Test.YtennkhdhnbdbeaaGreatSk8
import Derived.Test.YtennkhdhnbdbeaaGreatGr0G
/-
  seal.stampOf; seal.keyOf, told fully; seal.fits. (The verifier's own text.)
-/
namespace Go.Proofs.YtennkhdhnbdbeaaGreat
set_option linter.unusedVariables false
set_option linter.unusedSimpArgs false
open Go.RowKit Go.Shelf Go.Proofs.YtennkhdhnbdbeaaGreat.Nm

theorem bx_d7 {w : World} {R : Nat} {cs : Array Value} {T : TypeId} (h : Bx w R cs T) : Bx w.drew R cs T := h
theorem own_fst {w : World} {base : Nat} {p : Option Addr} {c : Nat} {S : ByteArray} (h : w.ownsRow base 9 1 (.slice p 1 c) 1 [.string S]) : ∃ g, p = some ⟨g, 0, none⟩ ∧ w.cell? ⟨g, 0, none⟩ = some (.string S) := by
  rcases id h.2 with ⟨h1, h0⟩ | ⟨g, cap, cur, h1, _⟩
  · cases h0
  · injection h1 with h1 h2 h3
    subst h1
    exact ⟨g, rfl, by rw [h.cellAt 0 (by omega)]; rfl⟩
/-- the signer that an RRSIG's data tell -/
def sgN (d : ByteArray) : ByteArray := (namesD 46 d).headD .empty
/-- the signature of an RRSIG's data -/
def sgX (d : ByteArray) : ByteArray := d.extract (18 + (sgN d).size) d.size
/-- the stamp of an RRSIG's data -/
def stmV (d : ByteArray) : Value := .agg #[.int .i64 (vN (d.extract 0 2) 2 : Int), .int .i64 (vN (d.extract 2 3) 1 : Int), .int .i64 (vN (d.extract 3 4) 1 : Int), .int .i64 (vN (d.extract 4 8) 4 : Int), .int .i64 (vN (d.extract 8 12) 4 : Int), .int .i64 (vN (d.extract 12 16) 4 : Int), .int .i64 (vN (d.extract 16 18) 2 : Int), .string (foldB (sgN d))]
set_option maxRecDepth 100000 in
set_option maxHeartbeats 4000000 in
/-- seal.stampOf -/
theorem stampOf_any (d : ByteArray) (w : World) (h : errD 46 d = 0) :
    Calls Tryz.prog 47 #[.string d] w fun r w' => r = .returned (.tuple #[stmV d, .string (sgX d)]) ∧ Below w.heap.size w w' := by
  obtain ⟨n, hnm, hN, hend, hz, hn1, hn2⟩ := rrsig_form h
  have hS : sgN d = d.extract 18 (18 + n) := by unfold sgN; rw [hnm]; rfl
  have hSz : (d.extract 18 (18 + n)).size = n := by rw [size_extract' _ _ _ (by omega)]; omega
  have HN := hide' (fun w => names_any 46 d w (by omega))
  rw [hnm] at HN
  have HV : Hid (stmV d = .agg #[.int .i64 (vN (d.extract 0 2) 2 : Int), .int .i64 (vN (d.extract 2 3) 1 : Int), .int .i64 (vN (d.extract 3 4) 1 : Int), .int .i64 (vN (d.extract 4 8) 4 : Int), .int .i64 (vN (d.extract 8 12) 4 : Int), .int .i64 (vN (d.extract 12 16) 4 : Int), .int .i64 (vN (d.extract 16 18) 2 : Int), .string (foldB (d.extract 18 (18 + n)))] ∧ sgX d = d.extract (18 + n) d.size) := by
    unfold Hid stmV sgX
    rw [hS, hSz]
    exact ⟨rfl, rfl⟩
  rw [HV.out.1, HV.out.2]
  have HF := hide' (fun w => fold_any (d.extract 18 (18 + n)) w (by rw [hSz]; unfold maxLen; omega))
  have V0 := hide' (fun w => spellValue_any (d.extract 0 2) w (by rw [size_extract' _ _ _ (by omega)]; omega))
  rw [size_extract' _ _ _ (by omega), show 2 - 0 = 2 from rfl] at V0
  have V1 := hide' (fun w => spellValue_any (d.extract 2 3) w (by rw [size_extract' _ _ _ (by omega)]; omega))
  rw [size_extract' _ _ _ (by omega), show 3 - 2 = 1 from rfl] at V1
  have V2 := hide' (fun w => spellValue_any (d.extract 3 4) w (by rw [size_extract' _ _ _ (by omega)]; omega))
  rw [size_extract' _ _ _ (by omega), show 4 - 3 = 1 from rfl] at V2
  have V3 := hide' (fun w => spellValue_any (d.extract 4 8) w (by rw [size_extract' _ _ _ (by omega)]; omega))
  rw [size_extract' _ _ _ (by omega), show 8 - 4 = 4 from rfl] at V3
  have V4 := hide' (fun w => spellValue_any (d.extract 8 12) w (by rw [size_extract' _ _ _ (by omega)]; omega))
  rw [size_extract' _ _ _ (by omega), show 12 - 8 = 4 from rfl] at V4
  have V5 := hide' (fun w => spellValue_any (d.extract 12 16) w (by rw [size_extract' _ _ _ (by omega)]; omega))
  rw [size_extract' _ _ _ (by omega), show 16 - 12 = 4 from rfl] at V5
  have V6 := hide' (fun w => spellValue_any (d.extract 16 18) w (by rw [size_extract' _ _ _ (by omega)]; omega))
  rw [size_extract' _ _ _ (by omega), show 18 - 16 = 2 from rfl] at V6
  clear HV hnm hS hN
  generalize d.extract 18 (18 + n) = S at *
  generalize foldB S = F at *
  generalize vN (d.extract 0 2) 2 = v0 at *
  generalize vN (d.extract 2 3) 1 = v1 at *
  generalize vN (d.extract 3 4) 1 = v2 at *
  generalize vN (d.extract 4 8) 4 = v3 at *
  generalize vN (d.extract 8 12) 4 = v4 at *
  generalize vN (d.extract 12 16) 4 = v5 at *
  generalize vN (d.extract 16 18) 2 = v6 at *
  obtain ⟨X, hX⟩ : ∃ X, d.extract (18 + n) d.size = X := ⟨_, rfl⟩
  have HXX := hide' hX
  rw [hX]
  have hdI : (18 : Int) + (n : Int) < (d.size : Int) := by omega
  have hSI : (S.size : Int) = (n : Int) := by omega
  have T0 : Hid True := trivial
  have T1 : Hid True := trivial
  have T2 : Hid True := trivial
  have T3 : Hid True := trivial
  have T4 : Hid True := trivial
  have T5 : Hid True := trivial
  have T6 : Hid True := trivial
  obtain ⟨W, hW⟩ : ∃ W, w.alloc (.cells #[.int .i64 0, .int .i64 0, .int .i64 0, .int .i64 0, .int .i64 0, .int .i64 0, .int .i64 0, .string ⟨#[]⟩] 53) = W := ⟨_, rfl⟩
  have h0 : Bx (w.alloc (.cells #[.int .i64 0, .int .i64 0, .int .i64 0, .int .i64 0, .int .i64 0, .int .i64 0, .int .i64 0, .string ⟨#[]⟩] 53)) w.heap.size #[.int .i64 0, .int .i64 0, .int .i64 0, .int .i64 0, .int .i64 0, .int .i64 0, .int .i64 0, .string ⟨#[]⟩] 53 := World.alloc_heap_new w _
  rw [hW] at h0
  have HX := hide' h0
  have HB : Hid (Below w.heap.size w W) := by rw [← hW]; exact (Below.refl _ _).alloc (Nat.le_refl _) _
  clear h0 h
  go_enter Tryz.func47, Tryz.ntmps47
  have hwr : IntKind.i64.wrap (18 + (n : Int)) = ((18 + n : Nat) : Int) := by rw [IntWalk.i64_in _ (by omega)]; omega
  have HDI := hide' hdI
  have HSI := hide' hSI
  clear hdI hSI hend hz hn1 hn2 hSz hX
  go_wp2_with (go_at_call 87; refine (HN.out _).mono ?_; rintro r w1 ⟨p, c, rfl, ho, hB1⟩; have HX1 := hide' (HX.out.below hB1 HX.out.lt); have HB1 := hide' (bstep HB.out hB1 HB.out.size); obtain ⟨gn, rfl, hcn⟩ := own_fst ho; clear ho hB1)
  have hdI := HDI.out
  have hSI := HSI.out
  clear hW
  refine wp_region_held_drew (S := fun _ => True) (by kernel_rfl) ?_ (fun hHeld => ?_)
  · trivial
  refine takeD 0 (some 9) (.string d) rfl rfl (by kernel_rfl) (by kernel_rfl) (by kernel_rfl) (fun _ _ _ h => h) (Or.inl ⟨by rfl, ?_⟩) (by assumption) ?_
  · intro w hSw; (try dsimp only at hSw); go_simp <;> (intros; omega)
  simp only [Act.put, List.setIfInBounds_toArray, List.set_cons_zero, List.set_cons_succ]
  refine takeD 1 (some 10) (.string (d.extract 0 2)) rfl rfl (by kernel_rfl) (by kernel_rfl) (by kernel_rfl) (fun _ _ _ h => h) (Or.inl ⟨by rfl, ?_⟩) (by assumption) ?_
  · intro w hSw; (try dsimp only at hSw); go_simp <;> (intros; omega)
  simp only [Act.put, List.setIfInBounds_toArray, List.set_cons_zero, List.set_cons_succ]
  refine takeD 3 (some 12) (.string d) rfl rfl (by kernel_rfl) (by kernel_rfl) (by kernel_rfl) (fun _ _ _ h => h) (Or.inl ⟨by rfl, ?_⟩) (by assumption) ?_
  · intro w hSw; (try dsimp only at hSw); go_simp <;> (intros; omega)
  simp only [Act.put, List.setIfInBounds_toArray, List.set_cons_zero, List.set_cons_succ]
  refine takeD 4 (some 13) (.string (d.extract 2 3)) rfl rfl (by kernel_rfl) (by kernel_rfl) (by kernel_rfl) (fun _ _ _ h => h) (Or.inl ⟨by rfl, ?_⟩) (by assumption) ?_
  · intro w hSw; (try dsimp only at hSw); go_simp <;> (intros; omega)
  simp only [Act.put, List.setIfInBounds_toArray, List.set_cons_zero, List.set_cons_succ]
  refine takeD 6 (some 15) (.string d) rfl rfl (by kernel_rfl) (by kernel_rfl) (by kernel_rfl) (fun _ _ _ h => h) (Or.inl ⟨by rfl, ?_⟩) (by assumption) ?_
  · intro w hSw; (try dsimp only at hSw); go_simp <;> (intros; omega)
  simp only [Act.put, List.setIfInBounds_toArray, List.set_cons_zero, List.set_cons_succ]
  refine takeD 7 (some 16) (.string (d.extract 3 4)) rfl rfl (by kernel_rfl) (by kernel_rfl) (by kernel_rfl) (fun _ _ _ h => h) (Or.inl ⟨by rfl, ?_⟩) (by assumption) ?_
  · intro w hSw; (try dsimp only at hSw); go_simp <;> (intros; omega)
  simp only [Act.put, List.setIfInBounds_toArray, List.set_cons_zero, List.set_cons_succ]
  refine takeD 9 (some 18) (.string d) rfl rfl (by kernel_rfl) (by kernel_rfl) (by kernel_rfl) (fun _ _ _ h => h) (Or.inl ⟨by rfl, ?_⟩) (by assumption) ?_
  · intro w hSw; (try dsimp only at hSw); go_simp <;> (intros; omega)
  simp only [Act.put, List.setIfInBounds_toArray, List.set_cons_zero, List.set_cons_succ]
  refine takeD 10 (some 19) (.string (d.extract 4 8)) rfl rfl (by kernel_rfl) (by kernel_rfl) (by kernel_rfl) (fun _ _ _ h => h) (Or.inl ⟨by rfl, ?_⟩) (by assumption) ?_
  · intro w hSw; (try dsimp only at hSw); go_simp <;> (intros; omega)
  simp only [Act.put, List.setIfInBounds_toArray, List.set_cons_zero, List.set_cons_succ]
  refine takeD 12 (some 21) (.string d) rfl rfl (by kernel_rfl) (by kernel_rfl) (by kernel_rfl) (fun _ _ _ h => h) (Or.inl ⟨by rfl, ?_⟩) (by assumption) ?_
  · intro w hSw; (try dsimp only at hSw); go_simp <;> (intros; omega)
  simp only [Act.put, List.setIfInBounds_toArray, List.set_cons_zero, List.set_cons_succ]
  refine takeD 13 (some 22) (.string (d.extract 8 12)) rfl rfl (by kernel_rfl) (by kernel_rfl) (by kernel_rfl) (fun _ _ _ h => h) (Or.inl ⟨by rfl, ?_⟩) (by assumption) ?_
  · intro w hSw; (try dsimp only at hSw); go_simp <;> (intros; omega)
  simp only [Act.put, List.setIfInBounds_toArray, List.set_cons_zero, List.set_cons_succ]
  refine takeD 15 (some 24) (.string d) rfl rfl (by kernel_rfl) (by kernel_rfl) (by kernel_rfl) (fun _ _ _ h => h) (Or.inl ⟨by rfl, ?_⟩) (by assumption) ?_
  · intro w hSw; (try dsimp only at hSw); go_simp <;> (intros; omega)
  simp only [Act.put, List.setIfInBounds_toArray, List.set_cons_zero, List.set_cons_succ]
  refine takeD 16 (some 25) (.string (d.extract 12 16)) rfl rfl (by kernel_rfl) (by kernel_rfl) (by kernel_rfl) (fun _ _ _ h => h) (Or.inl ⟨by rfl, ?_⟩) (by assumption) ?_
  · intro w hSw; (try dsimp only at hSw); go_simp <;> (intros; omega)
  simp only [Act.put, List.setIfInBounds_toArray, List.set_cons_zero, List.set_cons_succ]
  refine takeD 18 (some 27) (.string d) rfl rfl (by kernel_rfl) (by kernel_rfl) (by kernel_rfl) (fun _ _ _ h => h) (Or.inl ⟨by rfl, ?_⟩) (by assumption) ?_
  · intro w hSw; (try dsimp only at hSw); go_simp <;> (intros; omega)
  simp only [Act.put, List.setIfInBounds_toArray, List.set_cons_zero, List.set_cons_succ]
  refine takeD 19 (some 28) (.string (d.extract 16 18)) rfl rfl (by kernel_rfl) (by kernel_rfl) (by kernel_rfl) (fun _ _ _ h => h) (Or.inl ⟨by rfl, ?_⟩) (by assumption) ?_
  · intro w hSw; (try dsimp only at hSw); go_simp <;> (intros; omega)
  simp only [Act.put, List.setIfInBounds_toArray, List.set_cons_zero, List.set_cons_succ]
  refine takeD 21 (some 30) (.string S) rfl rfl (by kernel_rfl) (by kernel_rfl) (by kernel_rfl) (fun _ _ _ h => h) (Or.inl ⟨by rfl, ?_⟩) (by assumption) ?_
  · intro w hSw; (try dsimp only at hSw); go_simp <;> (intros; omega)
  simp only [Act.put, List.setIfInBounds_toArray, List.set_cons_zero, List.set_cons_succ]
  refine takeD 24 (some 33) (.string d) rfl rfl (by kernel_rfl) (by kernel_rfl) (by kernel_rfl) (fun _ _ _ h => h) (Or.inl ⟨by rfl, ?_⟩) (by assumption) ?_
  · intro w hSw; (try dsimp only at hSw); go_simp <;> (intros; omega)
  simp only [Act.put, List.setIfInBounds_toArray, List.set_cons_zero, List.set_cons_succ]
  refine takeD 25 (some 34) (.string S) rfl rfl (by kernel_rfl) (by kernel_rfl) (by kernel_rfl) (fun _ _ _ h => h) (Or.inl ⟨by rfl, ?_⟩) (by assumption) ?_
  · intro w hSw; (try dsimp only at hSw); go_simp <;> (intros; omega)
  simp only [Act.put, List.setIfInBounds_toArray, List.set_cons_zero, List.set_cons_succ]
  refine takeD 26 (some 35) (.int .i64 (n : Int)) rfl rfl (by kernel_rfl) (by kernel_rfl) (by kernel_rfl) (fun _ _ _ h => h) (Or.inl ⟨by rfl, ?_⟩) (by assumption) ?_
  · intro w hSw; (try dsimp only at hSw); go_simp <;> (intros; omega)
  simp only [Act.put, List.setIfInBounds_toArray, List.set_cons_zero, List.set_cons_succ]
  refine takeD 27 (some 36) (.int .i64 ((18 + n : Nat) : Int)) rfl rfl (by kernel_rfl) (by kernel_rfl) (by kernel_rfl) (fun _ _ _ h => h) (Or.inl ⟨by rfl, ?_⟩) (by assumption) ?_
  · intro w hSw; (try dsimp only at hSw); go_simp <;> (intros; omega)
  simp only [Act.put, List.setIfInBounds_toArray, List.set_cons_zero, List.set_cons_succ]
  refine takeD 28 (some 37) (.string X) rfl rfl (by kernel_rfl) (by kernel_rfl) (by kernel_rfl) (fun _ _ _ h => h) (Or.inl ⟨by rfl, ?_⟩) (by assumption) ?_
  · intro w hSw; (try dsimp only at hSw); rw [← HXX.out]; go_simp; rw [if_pos (by omega), show (18 + (n : Int)).toNat = 18 + n by omega]
  simp only [Act.put, List.setIfInBounds_toArray, List.set_cons_zero, List.set_cons_succ]
  refine wpAnyH_ready (rs := [2]) (by kernel_rfl) (by simp) ?_
  refine AllReadyH.cons rfl (fun K hK => ?_) AllReadyH.nil
  go_simp
  go_at_call 88; refine (V0.out _).mono ?_; rintro r w3 ⟨rfl, rfl⟩
  go_wp2_with fail
  refine hK.out _ _ (trivial) (fun hHeld => ?_)
  clear hK K
  try simp only [Act.put, List.setIfInBounds_toArray, List.set_cons_zero, List.set_cons_succ]
  refine wpAnyH_ready (rs := [5]) (by kernel_rfl) (by simp) ?_
  refine AllReadyH.cons rfl (fun K hK => ?_) AllReadyH.nil
  go_simp
  go_at_call 88; refine (V1.out _).mono ?_; rintro r w3 ⟨rfl, rfl⟩
  go_wp2_with fail
  refine hK.out _ _ (trivial) (fun hHeld => ?_)
  clear hK K
  try simp only [Act.put, List.setIfInBounds_toArray, List.set_cons_zero, List.set_cons_succ]
  refine wpAnyH_ready (rs := [8]) (by kernel_rfl) (by simp) ?_
  refine AllReadyH.cons rfl (fun K hK => ?_) AllReadyH.nil
  go_simp
  go_at_call 88; refine (V2.out _).mono ?_; rintro r w3 ⟨rfl, rfl⟩
  go_wp2_with fail
  refine hK.out _ _ (trivial) (fun hHeld => ?_)
  clear hK K
  try simp only [Act.put, List.setIfInBounds_toArray, List.set_cons_zero, List.set_cons_succ]
  refine wpAnyH_ready (rs := [11]) (by kernel_rfl) (by simp) ?_
  refine AllReadyH.cons rfl (fun K hK => ?_) AllReadyH.nil
  go_simp
  go_at_call 88; refine (V3.out _).mono ?_; rintro r w3 ⟨rfl, rfl⟩
  go_wp2_with fail
  refine hK.out _ _ (trivial) (fun hHeld => ?_)
  clear hK K
  try simp only [Act.put, List.setIfInBounds_toArray, List.set_cons_zero, List.set_cons_succ]
  refine wpAnyH_ready (rs := [14]) (by kernel_rfl) (by simp) ?_
  refine AllReadyH.cons rfl (fun K hK => ?_) AllReadyH.nil
  go_simp
  go_at_call 88; refine (V4.out _).mono ?_; rintro r w3 ⟨rfl, rfl⟩
  go_wp2_with fail
  refine hK.out _ _ (trivial) (fun hHeld => ?_)
  clear hK K
  try simp only [Act.put, List.setIfInBounds_toArray, List.set_cons_zero, List.set_cons_succ]
  refine wpAnyH_ready (rs := [17]) (by kernel_rfl) (by simp) ?_
  refine AllReadyH.cons rfl (fun K hK => ?_) AllReadyH.nil
  go_simp
  go_at_call 88; refine (V5.out _).mono ?_; rintro r w3 ⟨rfl, rfl⟩
  go_wp2_with fail
  refine hK.out _ _ (trivial) (fun hHeld => ?_)
  clear hK K
  try simp only [Act.put, List.setIfInBounds_toArray, List.set_cons_zero, List.set_cons_succ]
  refine wpAnyH_ready (rs := [20]) (by kernel_rfl) (by simp) ?_
  refine AllReadyH.cons rfl (fun K hK => ?_) AllReadyH.nil
  go_simp
  go_at_call 88; refine (V6.out _).mono ?_; rintro r w3 ⟨rfl, rfl⟩
  go_wp2_with fail
  refine hK.out _ _ (trivial) (fun hHeld => ?_)
  clear hK K
  try simp only [Act.put, List.setIfInBounds_toArray, List.set_cons_zero, List.set_cons_succ]
  refine wpAnyH_ready (rs := [22]) (by kernel_rfl) (by simp) ?_
  refine AllReadyH.cons rfl (fun K hK => ?_) AllReadyH.nil
  go_simp
  go_at_call 27; refine (HF.out _).mono ?_; rintro r w2 ⟨rfl, hB2⟩; have HX2 := hide' (show Bx w2 w.heap.size #[.int .i64 0, .int .i64 0, .int .i64 0, .int .i64 0, .int .i64 0, .int .i64 0, .int .i64 0, .string ⟨#[]⟩] 53 by first | exact HX1.out.below hB2 HX1.out.lt | exact (bx_d7 HX1.out).below hB2 HX1.out.lt); have HB2 := hide' (show Below w.heap.size w w2 by first | exact bstep HB1.out hB2 HB1.out.size | exact bstep HB1.out.drew hB2 HB1.out.size); have x0 : w2.cell? ⟨w.heap.size, 0, none⟩ = some (.int .i64 0) := HX2.out.cell rfl; have x1 : w2.cell? ⟨w.heap.size, 1, none⟩ = some (.int .i64 0) := HX2.out.cell rfl; have x2 : w2.cell? ⟨w.heap.size, 2, none⟩ = some (.int .i64 0) := HX2.out.cell rfl; have x3 : w2.cell? ⟨w.heap.size, 3, none⟩ = some (.int .i64 0) := HX2.out.cell rfl; have x4 : w2.cell? ⟨w.heap.size, 4, none⟩ = some (.int .i64 0) := HX2.out.cell rfl; have x5 : w2.cell? ⟨w.heap.size, 5, none⟩ = some (.int .i64 0) := HX2.out.cell rfl; have x6 : w2.cell? ⟨w.heap.size, 6, none⟩ = some (.int .i64 0) := HX2.out.cell rfl; have x7 : w2.cell? ⟨w.heap.size, 7, none⟩ = some (.string ⟨#[]⟩) := HX2.out.cell rfl; have g0 := HX2.out.free 0; have g1 := HX2.out.free 1; have g2 := HX2.out.free 2; have g3 := HX2.out.free 3; have g4 := HX2.out.free 4; have g5 := HX2.out.free 5; have g6 := HX2.out.free 6; have g7 := HX2.out.free 7; clear hB2
  go_wp2_with fail
  refine hK.out _ _ (trivial) (fun hHeld => ?_)
  clear hK K
  try simp only [Act.put, List.setIfInBounds_toArray, List.set_cons_zero, List.set_cons_succ]
  refine takeD 23 (some 32) (.agg #[.int .i64 (v0 : Int), .int .i64 (v1 : Int), .int .i64 (v2 : Int), .int .i64 (v3 : Int), .int .i64 (v4 : Int), .int .i64 (v5 : Int), .int .i64 (v6 : Int), .string F]) rfl rfl (by kernel_rfl) (by kernel_rfl) (by kernel_rfl) (fun _ _ _ h => h) (Or.inl ⟨by rfl, ?_⟩) (by assumption) ?_
  · intro w hSw; (try dsimp only at hSw); go_simp <;> (intros; omega)
  simp only [Act.put, List.setIfInBounds_toArray, List.set_cons_zero, List.set_cons_succ]
  refine wpAnyH_ready (rs := [29]) (by kernel_rfl) (by simp) ?_
  refine AllReadyH.cons rfl (fun K hK => ?_) AllReadyH.nil
  go_simp
  go_wp2_with fail
  refine hK.out _ _ (trivial) (fun hHeld => ?_)
  clear hK K
  try simp only [Act.put, List.setIfInBounds_toArray, List.set_cons_zero, List.set_cons_succ]
  refine takeD 30 (some 3) (.string X) rfl rfl (by kernel_rfl) (by kernel_rfl) (by kernel_rfl) (fun _ _ _ h => h) (Or.inl ⟨by rfl, ?_⟩) (by assumption) ?_
  · intro w hSw; (try dsimp only at hSw); go_simp <;> (intros; omega)
  simp only [Act.put, List.setIfInBounds_toArray, List.set_cons_zero, List.set_cons_succ]
  refine wpAnyH_done (by kernel_rfl) ?_ _
  all_goals
    have E3 := ((((((((HX2.out.set 0 (.int .i64 (v0 : Int))).set 1 (.int .i64 (v1 : Int))).set 2 (.int .i64 (v2 : Int))).set 3 (.int .i64 (v3 : Int))).set 4 (.int .i64 (v4 : Int))).set 5 (.int .i64 (v5 : Int))).set 6 (.int .i64 (v6 : Int))).set 7 (.string F))
    have q0 := E3.cell (j := 0) (v := (.int .i64 (v0 : Int))) (by simp)
    have q1 := E3.cell (j := 1) (v := (.int .i64 (v1 : Int))) (by simp)
    have q2 := E3.cell (j := 2) (v := (.int .i64 (v2 : Int))) (by simp)
    have q3 := E3.cell (j := 3) (v := (.int .i64 (v3 : Int))) (by simp)
    have q4 := E3.cell (j := 4) (v := (.int .i64 (v4 : Int))) (by simp)
    have q5 := E3.cell (j := 5) (v := (.int .i64 (v5 : Int))) (by simp)
    have q6 := E3.cell (j := 6) (v := (.int .i64 (v6 : Int))) (by simp)
    have q7 := E3.cell (j := 7) (v := (.string F)) (by simp)
    have BE := hide' (((((((((HB2.out.setCell (p := ⟨w.heap.size, 0, none⟩) (Nat.le_refl _) (.int .i64 (v0 : Int))).setCell (p := ⟨w.heap.size, 1, none⟩) (Nat.le_refl _) (.int .i64 (v1 : Int))).setCell (p := ⟨w.heap.size, 2, none⟩) (Nat.le_refl _) (.int .i64 (v2 : Int))).setCell (p := ⟨w.heap.size, 3, none⟩) (Nat.le_refl _) (.int .i64 (v3 : Int))).setCell (p := ⟨w.heap.size, 4, none⟩) (Nat.le_refl _) (.int .i64 (v4 : Int))).setCell (p := ⟨w.heap.size, 5, none⟩) (Nat.le_refl _) (.int .i64 (v5 : Int))).setCell (p := ⟨w.heap.size, 6, none⟩) (Nat.le_refl _) (.int .i64 (v6 : Int))).setCell (p := ⟨w.heap.size, 7, none⟩) (Nat.le_refl _) (.string F)))
    go_wp2_with fail
    refine bodyPost_ret (v := .tuple #[.agg #[.int .i64 (v0 : Int), .int .i64 (v1 : Int), .int .i64 (v2 : Int), .int .i64 (v3 : Int), .int .i64 (v4 : Int), .int .i64 (v5 : Int), .int .i64 (v6 : Int), .string F], .string X]) (by simp [results, go_sem, q0, q1, q2, q3, q4, q5, q6, q7]) rfl ⟨rfl, by first | exact BE.out | exact BE.out.drew⟩
end Go.Proofs.YtennkhdhnbdbeaaGreat

/-
  seal.fits. (The verifier's own text.)
-/
namespace Go.Proofs.YtennkhdhnbdbeaaGreat
set_option linter.unusedVariables false
set_option linter.unusedSimpArgs false
open Go.RowKit Go.Shelf Go.Proofs.YtennkhdhnbdbeaaGreat.Nm

theorem bx_db {w : World} {R : Nat} {cs : Array Value} {T : TypeId} (h : Bx w R cs T) : Bx w.drew R cs T := h
set_option maxRecDepth 100000 in
set_option maxHeartbeats 4000000 in
/-- seal.fits, of a number below the modulus -/
theorem fits_lt (tx x : ByteArray) (f s : Int) (m e : Nat) (w : World) (ht : tx.size ≤ 2097152) (hx : x.size = 4) (hm : 2 ≤ m) (hm2 : m ≤ 2147483647) (he : e ≤ 2147483647) (hv : vN x 4 < m) :
    Calls Tryz.prog 50 #[.string tx, .string x, .agg #[.int .i64 f, .int .i64 (m : Int), .int .i64 (e : Int), .int .i64 s]] w fun r w' => r = .returned (.bool (((vN x 4 ^ e % m : Nat) : Int) == ((fgN (digB tx) m 10 : Nat) : Int))) ∧ Below w.heap.size w w' := by
  have HV := hide' (fun w => spellValue_any x w (by omega))
  rw [hx] at HV
  have HP := hide' (fun w => power_any (vN x 4) e m w hm hm2 (by omega) he)
  have HN := hide' (fun w => number_any tx m w ht (by omega) hm2)
  have hxi : (x.size : Int) = 4 := by omega
  obtain ⟨v, hve⟩ : ∃ v, vN x 4 = v := ⟨_, rfl⟩
  rw [hve] at HV HP hv ⊢
  clear hve
  have hvi : (v : Int) < (m : Int) := by omega
  generalize v ^ e % m = pw at *
  generalize fgN (digB tx) m 10 = nn at *
  obtain ⟨W, hW⟩ : ∃ W, w.alloc (.cells #[.int .i64 f, .int .i64 (m : Int), .int .i64 (e : Int), .int .i64 s] 23) = W := ⟨_, rfl⟩
  have h0 : Bx (w.alloc (.cells #[.int .i64 f, .int .i64 (m : Int), .int .i64 (e : Int), .int .i64 s] 23)) w.heap.size #[.int .i64 f, .int .i64 (m : Int), .int .i64 (e : Int), .int .i64 s] 23 := World.alloc_heap_new w _
  rw [hW] at h0
  have HX := hide' h0
  have HB : Hid (Below w.heap.size w W) := by rw [← hW]; exact (Below.refl _ _).alloc (Nat.le_refl _) _
  have k1 : W.cell? ⟨w.heap.size, 1, none⟩ = some (.int .i64 (m : Int)) := h0.cell rfl
  have k2 : W.cell? ⟨w.heap.size, 2, none⟩ = some (.int .i64 (e : Int)) := h0.cell rfl
  clear h0
  have HVI := hide' hvi
  clear hvi hv ht hx hm hm2 he
  go_enter Tryz.func50, Tryz.ntmps50
  go_wp2_with (go_at_call 88; refine (HV.out _).mono ?_; rintro r w3 ⟨rfl, rfl⟩)
  have hvi := HVI.out
  try rw [hW]
  clear hW
  refine wp_region_held_drew (S := fun w' => w'.cell? ⟨w.heap.size, 1, none⟩ = some (.int .i64 (m : Int)) ∧ w'.cell? ⟨w.heap.size, 2, none⟩ = some (.int .i64 (e : Int))) (by kernel_rfl) ?_ (fun hHeld => ?_)
  · (try dsimp only); go_keep
  refine takeD 0 (some 13) (.int .i64 (v : Int)) rfl rfl (by kernel_rfl) (by kernel_rfl) (by kernel_rfl) (fun _ _ _ h => h) (Or.inl ⟨by rfl, ?_⟩) (by assumption) ?_
  · intro w hSw; (try dsimp only at hSw); go_simp <;> (intros; omega)
  simp only [Act.put, List.setIfInBounds_toArray, List.set_cons_zero, List.set_cons_succ]
  refine takeD 1 (some 14) (.pointer (some ⟨w.heap.size, 1, none⟩)) rfl rfl (by kernel_rfl) (by kernel_rfl) (by kernel_rfl) (fun _ _ _ h => h) (Or.inl ⟨by rfl, ?_⟩) (by assumption) ?_
  · intro w hSw; (try dsimp only at hSw); go_simp <;> (intros; omega)
  simp only [Act.put, List.setIfInBounds_toArray, List.set_cons_zero, List.set_cons_succ]
  refine takeD 2 (some 15) (.int .i64 (m : Int)) rfl rfl (by kernel_rfl) (by kernel_rfl) (by kernel_rfl) (fun _ _ _ h => h) (Or.inl ⟨by rfl, ?_⟩) (by assumption) ?_
  · intro w hSw; (try dsimp only at hSw); go_simp <;> (intros; omega)
  simp only [Act.put, List.setIfInBounds_toArray, List.set_cons_zero, List.set_cons_succ]
  refine takeD 3 (some 16) (.bool true) rfl rfl (by kernel_rfl) (by kernel_rfl) (by kernel_rfl) (fun _ _ _ h => h) (Or.inl ⟨by rfl, ?_⟩) (by assumption) ?_
  · intro w hSw; (try dsimp only at hSw); go_simp <;> (intros; omega)
  simp only [Act.put, List.setIfInBounds_toArray, List.set_cons_zero, List.set_cons_succ]
  refine takeD 4 (some 17) (.bool true) rfl rfl (by kernel_rfl) (by kernel_rfl) (by kernel_rfl) (fun _ _ _ h => h) (Or.inl ⟨by rfl, ?_⟩) (by assumption) ?_
  · intro w hSw; (try dsimp only at hSw); go_simp <;> (intros; omega)
  simp only [Act.put, List.setIfInBounds_toArray, List.set_cons_zero, List.set_cons_succ]
  refine takeD 5 (some 18) (.int .i64 (v : Int)) rfl rfl (by kernel_rfl) (by kernel_rfl) (by kernel_rfl) (fun _ _ _ h => h) (Or.inl ⟨by rfl, ?_⟩) (by assumption) ?_
  · intro w hSw; (try dsimp only at hSw); go_simp <;> (intros; omega)
  simp only [Act.put, List.setIfInBounds_toArray, List.set_cons_zero, List.set_cons_succ]
  refine takeD 6 (some 19) (.pointer (some ⟨w.heap.size, 2, none⟩)) rfl rfl (by kernel_rfl) (by kernel_rfl) (by kernel_rfl) (fun _ _ _ h => h) (Or.inl ⟨by rfl, ?_⟩) (by assumption) ?_
  · intro w hSw; (try dsimp only at hSw); go_simp <;> (intros; omega)
  simp only [Act.put, List.setIfInBounds_toArray, List.set_cons_zero, List.set_cons_succ]
  refine takeD 7 (some 20) (.int .i64 (e : Int)) rfl rfl (by kernel_rfl) (by kernel_rfl) (by kernel_rfl) (fun _ _ _ h => h) (Or.inl ⟨by rfl, ?_⟩) (by assumption) ?_
  · intro w hSw; (try dsimp only at hSw); go_simp <;> (intros; omega)
  simp only [Act.put, List.setIfInBounds_toArray, List.set_cons_zero, List.set_cons_succ]
  refine takeD 8 (some 21) (.pointer (some ⟨w.heap.size, 1, none⟩)) rfl rfl (by kernel_rfl) (by kernel_rfl) (by kernel_rfl) (fun _ _ _ h => h) (Or.inl ⟨by rfl, ?_⟩) (by assumption) ?_
  · intro w hSw; (try dsimp only at hSw); go_simp <;> (intros; omega)
  simp only [Act.put, List.setIfInBounds_toArray, List.set_cons_zero, List.set_cons_succ]
  refine takeD 9 (some 22) (.int .i64 (m : Int)) rfl rfl (by kernel_rfl) (by kernel_rfl) (by kernel_rfl) (fun _ _ _ h => h) (Or.inl ⟨by rfl, ?_⟩) (by assumption) ?_
  · intro w hSw; (try dsimp only at hSw); go_simp <;> (intros; omega)
  simp only [Act.put, List.setIfInBounds_toArray, List.set_cons_zero, List.set_cons_succ]
  refine takeD 11 (some 24) (.string tx) rfl rfl (by kernel_rfl) (by kernel_rfl) (by kernel_rfl) (fun _ _ _ h => h) (Or.inl ⟨by rfl, ?_⟩) (by assumption) ?_
  · intro w hSw; (try dsimp only at hSw); go_simp <;> (intros; omega)
  simp only [Act.put, List.setIfInBounds_toArray, List.set_cons_zero, List.set_cons_succ]
  refine takeD 12 (some 25) (.pointer (some ⟨w.heap.size, 1, none⟩)) rfl rfl (by kernel_rfl) (by kernel_rfl) (by kernel_rfl) (fun _ _ _ h => h) (Or.inl ⟨by rfl, ?_⟩) (by assumption) ?_
  · intro w hSw; (try dsimp only at hSw); go_simp <;> (intros; omega)
  simp only [Act.put, List.setIfInBounds_toArray, List.set_cons_zero, List.set_cons_succ]
  refine takeD 13 (some 26) (.int .i64 (m : Int)) rfl rfl (by kernel_rfl) (by kernel_rfl) (by kernel_rfl) (fun _ _ _ h => h) (Or.inl ⟨by rfl, ?_⟩) (by assumption) ?_
  · intro w hSw; (try dsimp only at hSw); go_simp <;> (intros; omega)
  simp only [Act.put, List.setIfInBounds_toArray, List.set_cons_zero, List.set_cons_succ]
  refine wpAnyH_ready (rs := [10]) (by kernel_rfl) (by simp) ?_
  refine AllReadyH.cons rfl (fun K hK => ?_) AllReadyH.nil
  go_simp
  go_at_call 28; refine (HP.out _).mono ?_; rintro r w3 ⟨rfl, rfl⟩
  go_wp2_with fail
  refine hK.out _ _ (⟨HX.out.cell rfl, HX.out.cell rfl⟩) (fun hHeld => ?_)
  clear hK K
  try simp only [Act.put, List.setIfInBounds_toArray, List.set_cons_zero, List.set_cons_succ]
  refine wpAnyH_ready (rs := [14]) (by kernel_rfl) (by simp) ?_
  refine AllReadyH.cons rfl (fun K hK => ?_) AllReadyH.nil
  go_simp
  go_at_call 29; refine (HN.out _).mono ?_; rintro r w1 ⟨rfl, hB1⟩; have HX1 := hide' (show Bx w1 w.heap.size #[.int .i64 f, .int .i64 (m : Int), .int .i64 (e : Int), .int .i64 s] 23 by first | exact HX.out.below hB1 HX.out.lt | exact (bx_db HX.out).below hB1 HX.out.lt); have HB1 := hide' (show Below w.heap.size w w1 by first | exact bstep HB.out hB1 HB.out.size | exact bstep HB.out.drew hB1 HB.out.size); clear hB1
  go_wp2_with fail
  refine hK.out _ _ (⟨HX1.out.cell rfl, HX1.out.cell rfl⟩) (fun hHeld => ?_)
  clear hK K
  try simp only [Act.put, List.setIfInBounds_toArray, List.set_cons_zero, List.set_cons_succ]
  refine takeD 15 (some 28) (.bool ((pw : Int) == (nn : Int))) rfl rfl (by kernel_rfl) (by kernel_rfl) (by kernel_rfl) (fun _ _ _ h => h) (Or.inl ⟨by rfl, ?_⟩) (by assumption) ?_
  · intro w hSw; (try dsimp only at hSw); go_simp <;> (intros; omega)
  simp only [Act.put, List.setIfInBounds_toArray, List.set_cons_zero, List.set_cons_succ]
  refine takeD 16 (some 29) (.bool ((pw : Int) == (nn : Int))) rfl rfl (by kernel_rfl) (by kernel_rfl) (by kernel_rfl) (fun _ _ _ h => h) (Or.inl ⟨by rfl, ?_⟩) (by assumption) ?_
  · intro w hSw; (try dsimp only at hSw); go_simp <;> (intros; omega)
  simp only [Act.put, List.setIfInBounds_toArray, List.set_cons_zero, List.set_cons_succ]
  refine takeD 17 (some 6) (.bool ((pw : Int) == (nn : Int))) rfl rfl (by kernel_rfl) (by kernel_rfl) (by kernel_rfl) (fun _ _ _ h => h) (Or.inl ⟨by rfl, ?_⟩) (by assumption) ?_
  · intro w hSw; (try dsimp only at hSw); go_simp <;> (intros; omega)
  simp only [Act.put, List.setIfInBounds_toArray, List.set_cons_zero, List.set_cons_succ]
  refine wpAnyH_done (by kernel_rfl) ?_ _
  all_goals
    go_wp2_with fail
    go_ret
    exact ⟨rfl, by first | exact HB1.out | exact HB1.out.drew⟩
end Go.Proofs.YtennkhdhnbdbeaaGreat
