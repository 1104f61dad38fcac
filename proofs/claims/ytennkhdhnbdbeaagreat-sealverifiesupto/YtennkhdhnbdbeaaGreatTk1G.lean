import Derived.Test.YtennkhdhnbdbeaaGreatSf1G
import Derived.Test.YtennkhdhnbdbeaaGreatSg7G
/-
  An RRSIG's data, part by part, and names that are folded. (The verifier's own text.)
-/
namespace Go.Proofs.YtennkhdhnbdbeaaGreat
set_option linter.unusedVariables false
set_option linter.unusedSimpArgs false
open Go.RowKit Go.Shelf Go.Sort Go.Proofs.YtennkhdhnbdbeaaGreat.Nm

theorem vN_cut (x : ByteArray) (m : Nat) : ∀ k, vN x (m + k) / 256 ^ k = vN x m
  | 0 => by simp
  | k + 1 => by
    rw [← Nat.add_assoc, vN, Nat.pow_succ, Nat.mul_comm (256 ^ k) 256, ← Nat.div_div_eq_div_mul]
    have h : (vN x (m + k) * 256 + bt x (m + k)) / 256 = vN x (m + k) := by
      have := bt_lt x (m + k)
      omega
    rw [h]
    exact vN_cut x m k
theorem nB_vN {x : ByteArray} {k : Nat} (h : x.size = k) : nB (vN x k) k = x := by
  subst h
  refine ba_ext (nB_size _ _) (fun j hj => ?_)
  rw [nB_size] at hj
  rw [nB_bt _ _ _ hj]
  have h1 := vN_cut x (j + 1) (x.size - 1 - j)
  rw [show j + 1 + (x.size - 1 - j) = x.size by omega] at h1
  rw [h1, vN]
  have := bt_lt x j
  omega
theorem part_of (d : ByteArray) (a b k : Nat) (hb : b ≤ d.size) (hk : b - a = k) : nB (vN (d.extract a b) k) k = d.extract a b := nB_vN (by rw [size_extract' _ _ _ hb]; exact hk)
/-- an RRSIG's data are a stamp and a signature -/
theorem rrsig_split {d : ByteArray} (h : errD 46 d = 0) : ∃ (c a l g u f t : Nat) (sg X : ByteArray), d = stB c a l g u f t sg ++ X ∧ 1 ≤ c ∧ c < 65536 ∧ a < 256 ∧ l < 256 ∧ g < 4294967296 ∧ u < 4294967296 ∧ f < 4294967296 ∧ t < 65536 ∧ isN sg = true ∧ 0 < X.size ∧ sg.size + X.size + 18 ≤ 65535 := by
  obtain ⟨n, hnm, hN, hend, hz, hn1, hn2⟩ := rrsig_form h
  have hc : 1 ≤ vN (d.extract 0 2) 2 := by
    obtain ⟨ps, hp⟩ := errD_zero h
    unfold partsD at hp
    rw [kinds46] at hp
    change (if _ then _ else _) = _ at hp
    split at hp
    · cases hp
    obtain ⟨n0, q0, k0, hp0, rfl⟩ := parts_cons hp
    change oneS d = some n0 at k0
    unfold oneS at k0
    split at k0
    · cases k0
    · rename_i hh
      have e0 : bt (d.extract 0 2) 0 = bt d 0 := bt_extract d 0 2 0 (by omega) (by omega)
      have e1 : bt (d.extract 0 2) 1 = bt d 1 := bt_extract d 0 2 1 (by omega) (by omega)
      simp only [vN, e0, e1]
      omega
  have l1 := vN_lt (d.extract 0 2) 2
  have l2 := vN_lt (d.extract 2 3) 1
  have l3 := vN_lt (d.extract 3 4) 1
  have l4 := vN_lt (d.extract 4 8) 4
  have l5 := vN_lt (d.extract 8 12) 4
  have l6 := vN_lt (d.extract 12 16) 4
  have l7 := vN_lt (d.extract 16 18) 2
  refine ⟨vN (d.extract 0 2) 2, vN (d.extract 2 3) 1, vN (d.extract 3 4) 1, vN (d.extract 4 8) 4, vN (d.extract 8 12) 4, vN (d.extract 12 16) 4, vN (d.extract 16 18) 2, d.extract 18 (18 + n), d.extract (18 + n) d.size, ?_, hc, by omega, by omega, by omega, by omega, by omega, by omega, by omega, hN, ?_, ?_⟩
  · unfold stB
    rw [part_of d 0 2 2 (by omega) rfl, part_of d 2 3 1 (by omega) rfl, part_of d 3 4 1 (by omega) rfl, part_of d 4 8 4 (by omega) rfl, part_of d 8 12 4 (by omega) rfl, part_of d 12 16 4 (by omega) rfl, part_of d 16 18 2 (by omega) rfl]
    rw [extract_join d 0 2 3 (by omega) (by omega) (by omega), extract_join d 0 3 4 (by omega) (by omega) (by omega), extract_join d 0 4 8 (by omega) (by omega) (by omega), extract_join d 0 8 12 (by omega) (by omega) (by omega), extract_join d 0 12 16 (by omega) (by omega) (by omega), extract_join d 0 16 18 (by omega) (by omega) (by omega), extract_join d 0 18 (18 + n) (by omega) (by omega) (by omega), extract_join d 0 (18 + n) d.size (by omega) (by omega) (by omega)]
    simp
  · rw [size_extract' _ _ _ (Nat.le_refl _)]; omega
  · rw [size_extract' _ _ _ (Nat.le_refl _), size_extract' _ _ _ (by omega)]; omega
theorem parts_stamp2 (c a l g u f t : Nat) (sg X : ByteArray) (h1 : 1 ≤ c) (h2 : c < 65536) (hs : isN sg = true) (hx : 0 < X.size) (hz : sg.size + X.size + 18 ≤ 65535) :
    partsD 46 (stB c a l g u f t sg ++ X) = some [(.one, nB c 2), (.num 1, nB a 1), (.num 1, nB l 1), (.num 4, nB g 4), (.num 4, nB u 4), (.num 4, nB f 4), (.num 2, nB t 2), (.dom, sg), (.b64, X)] := by
  have hsz := ((isN_iff sg).1 hs).1
  unfold partsD
  rw [kinds46]
  show (if _ then _ else _) = _
  rw [if_neg (by unfold stB; simp only [ByteArray.size_append, nB_size]; omega)]
  unfold stB
  simp only [ByteArray.append_assoc]
  rw [parts_one _ _ _ h1 h2, parts_num 1, parts_num 1, parts_num 4, parts_num 4, parts_num 4, parts_num 2, parts_dom _ _ _ hs, parts_b64 _ hx]
  rfl
theorem parts_raw (c a l g u f t : Nat) (sg X : ByteArray) (h1 : 1 ≤ c) (h2 : c < 65536) (hs : isN sg = true) (hx : 0 < X.size) :
    partsOf [.one, .num 1, .num 1, .num 4, .num 4, .num 4, .num 2, .dom, .b64] (stB c a l g u f t sg ++ X) = some [(.one, nB c 2), (.num 1, nB a 1), (.num 1, nB l 1), (.num 4, nB g 4), (.num 4, nB u 4), (.num 4, nB f 4), (.num 2, nB t 2), (.dom, sg), (.b64, X)] := by
  unfold stB
  simp only [ByteArray.append_assoc]
  rw [parts_one _ _ _ h1 h2, parts_num 1, parts_num 1, parts_num 4, parts_num 4, parts_num 4, parts_num 2, parts_dom _ _ _ hs, parts_b64 _ hx]
  rfl
/-- what stampOf tells of it -/
theorem stamp_of (c a l g u f t : Nat) (sg X : ByteArray) (h1 : 1 ≤ c) (hc : c < 65536) (ha : a < 256) (hl : l < 256) (hg : g < 4294967296) (hu : u < 4294967296) (hf : f < 4294967296) (ht : t < 65536) (hs : isN sg = true) (hx : 0 < X.size) (hz : sg.size + X.size + 18 ≤ 65535) :
    stmV (stB c a l g u f t sg ++ X) = .agg #[.int .i64 (c : Int), .int .i64 (a : Int), .int .i64 (l : Int), .int .i64 (g : Int), .int .i64 (u : Int), .int .i64 (f : Int), .int .i64 (t : Int), .string (foldB sg)] ∧ sgX (stB c a l g u f t sg ++ X) = X := by
  obtain ⟨e0, e1, e2, e3, e4, e5, e6, e7⟩ := nums_stamp c a l g u f t sg X hc ha hl hg hu hf ht
  have hN : sgN (stB c a l g u f t sg ++ X) = sg := by
    unfold sgN namesD
    rw [parts_stamp2 c a l g u f t sg X h1 hc hs hx hz]
    rfl
  constructor
  · unfold stmV
    rw [e0, e1, e2, e3, e4, e5, e6, hN]
  · unfold sgX
    rw [hN, e7]
theorem bool_same {a b : Bool} (h : a = true ↔ b = true) : a = b := by cases a <;> cases b <;> simp_all
theorem eq_fold2 (q : ByteArray) {n : ByteArray} (h : isN n = true) : eqB q (foldB n) = eqB q n := by unfold eqB; rw [fold_fold h]
theorem within_fold2 (o : ByteArray) {n : ByteArray} (h : isN n = true) : withinB o (foldB n) = withinB o n := by
  obtain ⟨f1, f2⟩ := isN_fold h
  apply bool_same
  rw [withinB_iff, withinB_iff, f2, List.length_map, map_low_low]
  simp [f1, h]
theorem fold_isN {n : ByteArray} (h : isN n = true) : isN (foldB n) = true := (isN_fold h).1
/-- a stamp with its name folded -/
theorem stB_fold (c a l g u f t : Nat) (sg : ByteArray) : nB c 2 ++ nB a 1 ++ nB l 1 ++ nB g 4 ++ nB u 4 ++ nB f 4 ++ nB t 2 ++ foldB sg = stB c a l g u f t (foldB sg) := rfl
theorem fold_le (n : ByteArray) : (foldB n).size ≤ n.size := by
  unfold foldB
  split
  · rw [lowB_size]; omega
  · simp
theorem star_le (n : ByteArray) : (starB n).size ≤ n.size + 2 := by
  unfold starB
  split
  · simp only [ByteArray.size_append]; have h2 : (⟨#[1, 42]⟩ : ByteArray).size = 2 := rfl; omega
  · simp
theorem lb_le {n : ByteArray} (h : isN n = true) : lbI n ≤ ((labs n).length : Nat) := by
  cases hs : isStarB n with
  | true => rw [lbI_star hs, cntI_yes h]; omega
  | false => rw [lbI_none hs, cntI_yes h]; omega
/-- the owner that is signed is no longer than the owner -/
theorem ow_le {n : ByteArray} (h : isN n = true) (k : Nat) : (owB k n).size ≤ n.size := by
  unfold owB
  refine Nat.le_trans (fold_le _) ?_
  split
  · rename_i hk
    have h1 := lb_le h
    refine Nat.le_trans (star_le _) ?_
    have h2 : k < (labs n).length := by omega
    have e1 : (tailB n (k : Int)) = putB ((labs n).drop ((labs n).length - k)) := by unfold tailB; rw [if_pos ⟨h, by omega, by omega⟩]; rfl
    have e2 : (putB (labs n)).size = n.size := by rw [putB_labs h]
    rw [← List.take_append_drop ((labs n).length - k) (labs n), putB_append, ByteArray.size_append] at e2
    have e3 : 2 ≤ (chunks ((labs n).take ((labs n).length - k))).size := by
      cases hl : labs n with
      | nil => rw [hl] at h2; simp at h2
      | cons x l =>
        have hx : 0 < x.size := (labs_mem (s := n) (x := x) (by rw [hl]; simp)).1
        have h3 : (x :: l).length - k = ((x :: l).length - k - 1) + 1 := by rw [hl] at h2; omega
        rw [h3, List.take_succ_cons, chunks_cons, ByteArray.size_append, chunk_size]
        omega
    rw [e1]
    omega
  · omega
/-- what a key's bytes have -/
theorem key_facts {d : ByteArray} (h : keyB d = true) : d.size = 12 ∧ ∃ m e : Nat, vN (d.extract 4 8) 4 = m ∧ vN (d.extract 8 12) 4 = e ∧ kyM d = (m : Int) ∧ kyE d = (e : Int) ∧ 2 ≤ m ∧ m ≤ 2147483647 ∧ e ≤ 2147483647 := by
  unfold keyB at h
  rw [Bool.and_eq_true, decide_eq_true_eq] at h
  obtain ⟨h12, h2⟩ := h
  refine ⟨h12, vN (d.extract 4 8) 4, vN (d.extract 8 12) 4, rfl, rfl, by unfold kyM; rw [if_pos h12], by unfold kyE; rw [if_pos h12], ?_⟩
  have hr : rkB (vN (d.extract 0 2) 2) (vN (d.extract 4 8) 4) (vN (d.extract 8 12) 4) 1 = true := by
    cases hh : rkB (vN (d.extract 0 2) 2) (vN (d.extract 4 8) 4) (vN (d.extract 8 12) 4) 1 with
    | true => rfl
    | false =>
      exfalso
      have h3 : kyB d = ⟨#[]⟩ := by unfold kyB; exact pubB_no hh
      rw [h3] at h2
      have h4 : (⟨#[]⟩ : ByteArray) = d := toList_inj.1 (eq_of_beq h2)
      rw [← h4] at h12
      exact absurd h12 (by decide)
  obtain ⟨r1, r2, r3, r4⟩ := rk_of hr
  omega
end Go.Proofs.YtennkhdhnbdbeaaGreat

/-
  seal.fits, in all cases. (The verifier's own text.)
-/
namespace Go.Proofs.YtennkhdhnbdbeaaGreat
set_option linter.unusedVariables false
set_option linter.unusedSimpArgs false
open Go.RowKit Go.Shelf Go.Proofs.YtennkhdhnbdbeaaGreat.Nm

set_option maxRecDepth 100000 in
set_option maxHeartbeats 4000000 in
theorem fits_len (tx x : ByteArray) (f s : Int) (m e : Nat) (w : World) (hx : ¬ x.size = 4) (hz : x.size ≤ 65535) :
    Calls Tryz.prog 50 #[.string tx, .string x, .agg #[.int .i64 f, .int .i64 (m : Int), .int .i64 (e : Int), .int .i64 s]] w fun r w' => r = .returned (.bool false) ∧ Below w.heap.size w w' := by
  have hxi : ¬ (x.size : Int) = 4 := by omega
  have HB : Hid (Below w.heap.size w (w.alloc (.cells #[.int .i64 f, .int .i64 (m : Int), .int .i64 (e : Int), .int .i64 s] 23))) := (Below.refl _ _).alloc (Nat.le_refl _) _
  clear hx
  go_enter Tryz.func50, Tryz.ntmps50
  go_wp2_with fail
  go_ret
  exact ⟨rfl, HB.out⟩
set_option maxRecDepth 100000 in
set_option maxHeartbeats 4000000 in
theorem fits_ge (tx x : ByteArray) (f s : Int) (m e : Nat) (w : World) (hx : x.size = 4) (hv : ¬ vN x 4 < m) :
    Calls Tryz.prog 50 #[.string tx, .string x, .agg #[.int .i64 f, .int .i64 (m : Int), .int .i64 (e : Int), .int .i64 s]] w fun r w' => r = .returned (.bool false) ∧ Below w.heap.size w w' := by
  have HV := hide' (fun w => spellValue_any x w (by omega))
  rw [hx] at HV
  have hxi : (x.size : Int) = 4 := by omega
  obtain ⟨v, hve⟩ : ∃ v, vN x 4 = v := ⟨_, rfl⟩
  rw [hve] at HV hv
  clear hve
  have hvi : ¬ (v : Int) < (m : Int) := by omega
  obtain ⟨W, hW⟩ : ∃ W, w.alloc (.cells #[.int .i64 f, .int .i64 (m : Int), .int .i64 (e : Int), .int .i64 s] 23) = W := ⟨_, rfl⟩
  have h0 : Bx (w.alloc (.cells #[.int .i64 f, .int .i64 (m : Int), .int .i64 (e : Int), .int .i64 s] 23)) w.heap.size #[.int .i64 f, .int .i64 (m : Int), .int .i64 (e : Int), .int .i64 s] 23 := World.alloc_heap_new w _
  rw [hW] at h0
  have HX := hide' h0
  have HB : Hid (Below w.heap.size w W) := by rw [← hW]; exact (Below.refl _ _).alloc (Nat.le_refl _) _
  have k1 : W.cell? ⟨w.heap.size, 1, none⟩ = some (.int .i64 (m : Int)) := h0.cell rfl
  have k2 : W.cell? ⟨w.heap.size, 2, none⟩ = some (.int .i64 (e : Int)) := h0.cell rfl
  clear h0
  have HVI := hide' hvi
  clear hvi hv hx
  go_enter Tryz.func50, Tryz.ntmps50
  go_wp2_with (go_at_call 88; refine (HV.out _).mono ?_; rintro r w3 ⟨rfl, rfl⟩)
  have hvi := HVI.out
  try rw [hW]
  clear hW
  refine wp_region_held_drew (S := fun w' => w'.cell? ⟨w.heap.size, 1, none⟩ = some (.int .i64 (m : Int)) ∧ w'.cell? ⟨w.heap.size, 2, none⟩ = some (.int .i64 (e : Int))) (by kernel_rfl) ?_ (fun hHeld => ?_)
  · (try dsimp only); go_keep
  refine takeD 0 (some 13) (.int .i64 (v : Int)) rfl rfl (by kernel_rfl) (by kernel_rfl) (by kernel_rfl) (fun _ _ _ h => h) (Or.inl ⟨by rfl, ?_⟩) (by assumption) ?_
  · intro w hSw; (try dsimp only at hSw); go_simp <;> (intros; omega)
  simp only [Act.put, List.setIfInBounds_toArray, List.set_cons_zero, List.set_cons_succ]
  refine takeD 1 (some 14) (.pointer (some ⟨w.heap.size, 1, none⟩)) rfl rfl (by kernel_rfl) (by kernel_rfl) (by kernel_rfl) (fun _ _ _ h => h) (Or.inl ⟨by rfl, ?_⟩) (by assumption) ?_
  · intro w hSw; (try dsimp only at hSw); go_simp <;> (intros; omega)
  simp only [Act.put, List.setIfInBounds_toArray, List.set_cons_zero, List.set_cons_succ]
  refine takeD 2 (some 15) (.int .i64 (m : Int)) rfl rfl (by kernel_rfl) (by kernel_rfl) (by kernel_rfl) (fun _ _ _ h => h) (Or.inl ⟨by rfl, ?_⟩) (by assumption) ?_
  · intro w hSw; (try dsimp only at hSw); go_simp <;> (intros; omega)
  simp only [Act.put, List.setIfInBounds_toArray, List.set_cons_zero, List.set_cons_succ]
  refine takeD 3 (some 16) (.bool false) rfl rfl (by kernel_rfl) (by kernel_rfl) (by kernel_rfl) (fun _ _ _ h => h) (Or.inl ⟨by rfl, ?_⟩) (by assumption) ?_
  · intro w hSw; (try dsimp only at hSw); go_simp <;> (intros; omega)
  simp only [Act.put, List.setIfInBounds_toArray, List.set_cons_zero, List.set_cons_succ]
  refine takeD 4 (some 17) (.bool false) rfl rfl (by kernel_rfl) (by kernel_rfl) (by kernel_rfl) (fun _ _ _ h => h) (Or.inl ⟨by rfl, ?_⟩) (by assumption) ?_
  · intro w hSw; (try dsimp only at hSw); go_simp <;> (intros; omega)
  simp only [Act.put, List.setIfInBounds_toArray, List.set_cons_zero, List.set_cons_succ]
  refine takeD 5 (some 18) undef rfl rfl (by kernel_rfl) (by kernel_rfl) (by kernel_rfl) (fun _ _ _ h => h) (Or.inr ⟨by rfl, rfl⟩) (by assumption) ?_
  simp only [Act.put, List.setIfInBounds_toArray, List.set_cons_zero, List.set_cons_succ]
  refine takeD 6 (some 19) undef rfl rfl (by kernel_rfl) (by kernel_rfl) (by kernel_rfl) (fun _ _ _ h => h) (Or.inr ⟨by rfl, rfl⟩) (by assumption) ?_
  simp only [Act.put, List.setIfInBounds_toArray, List.set_cons_zero, List.set_cons_succ]
  refine takeD 7 (some 20) undef rfl rfl (by kernel_rfl) (by kernel_rfl) (by kernel_rfl) (fun _ _ _ h => h) (Or.inr ⟨by rfl, rfl⟩) (by assumption) ?_
  simp only [Act.put, List.setIfInBounds_toArray, List.set_cons_zero, List.set_cons_succ]
  refine takeD 8 (some 21) undef rfl rfl (by kernel_rfl) (by kernel_rfl) (by kernel_rfl) (fun _ _ _ h => h) (Or.inr ⟨by rfl, rfl⟩) (by assumption) ?_
  simp only [Act.put, List.setIfInBounds_toArray, List.set_cons_zero, List.set_cons_succ]
  refine takeD 9 (some 22) undef rfl rfl (by kernel_rfl) (by kernel_rfl) (by kernel_rfl) (fun _ _ _ h => h) (Or.inr ⟨by rfl, rfl⟩) (by assumption) ?_
  simp only [Act.put, List.setIfInBounds_toArray, List.set_cons_zero, List.set_cons_succ]
  refine takeD 10 (some 23) undef rfl rfl (by kernel_rfl) (by kernel_rfl) (by kernel_rfl) (fun _ _ _ h => h) (Or.inr ⟨by rfl, rfl⟩) (by assumption) ?_
  simp only [Act.put, List.setIfInBounds_toArray, List.set_cons_zero, List.set_cons_succ]
  refine takeD 11 (some 24) undef rfl rfl (by kernel_rfl) (by kernel_rfl) (by kernel_rfl) (fun _ _ _ h => h) (Or.inr ⟨by rfl, rfl⟩) (by assumption) ?_
  simp only [Act.put, List.setIfInBounds_toArray, List.set_cons_zero, List.set_cons_succ]
  refine takeD 12 (some 25) undef rfl rfl (by kernel_rfl) (by kernel_rfl) (by kernel_rfl) (fun _ _ _ h => h) (Or.inr ⟨by rfl, rfl⟩) (by assumption) ?_
  simp only [Act.put, List.setIfInBounds_toArray, List.set_cons_zero, List.set_cons_succ]
  refine takeD 13 (some 26) undef rfl rfl (by kernel_rfl) (by kernel_rfl) (by kernel_rfl) (fun _ _ _ h => h) (Or.inr ⟨by rfl, rfl⟩) (by assumption) ?_
  simp only [Act.put, List.setIfInBounds_toArray, List.set_cons_zero, List.set_cons_succ]
  refine takeD 14 (some 27) undef rfl rfl (by kernel_rfl) (by kernel_rfl) (by kernel_rfl) (fun _ _ _ h => h) (Or.inr ⟨by rfl, rfl⟩) (by assumption) ?_
  simp only [Act.put, List.setIfInBounds_toArray, List.set_cons_zero, List.set_cons_succ]
  refine takeD 15 (some 28) undef rfl rfl (by kernel_rfl) (by kernel_rfl) (by kernel_rfl) (fun _ _ _ h => h) (Or.inr ⟨by rfl, rfl⟩) (by assumption) ?_
  simp only [Act.put, List.setIfInBounds_toArray, List.set_cons_zero, List.set_cons_succ]
  refine takeD 16 (some 29) (.bool false) rfl rfl (by kernel_rfl) (by kernel_rfl) (by kernel_rfl) (fun _ _ _ h => h) (Or.inl ⟨by rfl, ?_⟩) (by assumption) ?_
  · intro w hSw; (try dsimp only at hSw); go_simp <;> (intros; omega)
  simp only [Act.put, List.setIfInBounds_toArray, List.set_cons_zero, List.set_cons_succ]
  refine takeD 17 (some 6) (.bool false) rfl rfl (by kernel_rfl) (by kernel_rfl) (by kernel_rfl) (fun _ _ _ h => h) (Or.inl ⟨by rfl, ?_⟩) (by assumption) ?_
  · intro w hSw; (try dsimp only at hSw); go_simp <;> (intros; omega)
  simp only [Act.put, List.setIfInBounds_toArray, List.set_cons_zero, List.set_cons_succ]
  refine wpAnyH_done (by kernel_rfl) ?_ _
  all_goals
    go_wp2_with fail
    go_ret
    exact ⟨rfl, by first | exact HB.out | exact HB.out.drew⟩
/-- seal.fits -/
def fitB (tx x : ByteArray) (m e : Nat) : Bool := decide (x.size = 4) && decide (vN x 4 < m) && (((vN x 4 ^ e % m : Nat) : Int) == ((fgN (digB tx) m 10 : Nat) : Int))
theorem fits_any (tx x : ByteArray) (f s : Int) (m e : Nat) (w : World) (ht : tx.size ≤ 2097152) (hz : x.size ≤ 65535) (hm : 2 ≤ m) (hm2 : m ≤ 2147483647) (he : e ≤ 2147483647) :
    Calls Tryz.prog 50 #[.string tx, .string x, .agg #[.int .i64 f, .int .i64 (m : Int), .int .i64 (e : Int), .int .i64 s]] w fun r w' => r = .returned (.bool (fitB tx x m e)) ∧ Below w.heap.size w w' := by
  by_cases hx : x.size = 4
  · by_cases hv : vN x 4 < m
    · have h := fits_lt tx x f s m e w ht hx hm hm2 he hv
      have hb : fitB tx x m e = (((vN x 4 ^ e % m : Nat) : Int) == ((fgN (digB tx) m 10 : Nat) : Int)) := by unfold fitB; rw [decide_eq_true hx, decide_eq_true hv]; rfl
      rw [hb]
      exact h
    · have h := fits_ge tx x f s m e w hx hv
      have hb : fitB tx x m e = false := by unfold fitB; rw [decide_eq_false hv, Bool.and_false]; rfl
      rw [hb]
      exact h
  · have h := fits_len tx x f s m e w hx hz
    have hb : fitB tx x m e = false := by unfold fitB; rw [decide_eq_false hx]; rfl
    rw [hb]
    exact h
end Go.Proofs.YtennkhdhnbdbeaaGreat
