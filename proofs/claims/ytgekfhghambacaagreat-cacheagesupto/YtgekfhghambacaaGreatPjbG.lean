import Derived.Test.YtgekfhghambacaaGreatPj8G
import Derived.Test.YtgekfhghambacaaGreatSd3G
import Derived.Test.YtgekfhghambacaaGreatDg1G
import Derived.Test.YtgekfhghambacaaGreatWkG
/-
  Proofs: what an NSEC3's data have. (The verifier's own text.)
-/
namespace Go.Proofs.YtgekfhghambacaaGreat
set_option linter.unusedVariables false
set_option linter.unusedSimpArgs false
open Go.RowKit Go.Shelf Go.Proofs.YtgekfhghambacaaGreat.Nm

theorem kinds50 : kindsOf 50 = some [.num 1, .num 1, .num 2, .salt, .hash, .set] := by decide
theorem fix_someJ {k n : Nat} {d : ByteArray} (h : kindSize (.num k) d = some n) : n = k ∧ k ≤ d.size := by
  change fixS k d = some n at h
  unfold fixS at h
  split at h
  · cases h
  · simp at h; omega
theorem ext_extJ (d : ByteArray) (a b : Nat) (ha : a ≤ d.size) : (d.extract a d.size).extract b (d.extract a d.size).size = d.extract (a + b) d.size := by
  apply ByteArray.ext
  simp [ByteArray.data_extract, ByteArray.size_extract, Array.extract_extract]
  try (congr 1; omega)
theorem ext_subJ (d : ByteArray) (a n : Nat) (h : a + n ≤ d.size) : (d.extract a d.size).extract 0 n = d.extract a (a + n) := by
  apply ByteArray.ext
  rw [ByteArray.data_extract, ByteArray.data_extract, ByteArray.data_extract, Array.extract_extract, Nat.add_zero, Nat.min_eq_left h]
theorem bt_at (d : ByteArray) (a : Nat) (h : a < d.size) : bt (d.extract a d.size) 0 = bt d a := by
  have := bt_extract d a d.size 0 (by omega) (Nat.le_refl _)
  rw [this, Nat.add_zero]
/-- the salt's length, the hash's -/
def slZ (d : ByteArray) : Nat := bt d 4
def hsZ (d : ByteArray) : Nat := bt d (5 + slZ d)
/-- what an NSEC3's data have -/
theorem nsec3_form {d : ByteArray} (h : errD 50 d = 0) : 5 + slZ d < d.size ∧ 6 + slZ d + hsZ d ≤ d.size ∧ 1 ≤ hsZ d ∧ d.size ≤ 65535 ∧ (∃ l, typB (d.extract (6 + slZ d + hsZ d) d.size) = some l) ∧
    partsD 50 d = some [(.num 1, d.extract 0 1), (.num 1, d.extract 1 2), (.num 2, d.extract 2 4), (.salt, d.extract 4 (5 + slZ d)), (.hash, d.extract (5 + slZ d) (6 + slZ d + hsZ d)), (.set, d.extract (6 + slZ d + hsZ d) d.size)] := by
  obtain ⟨ps, hp⟩ := errD_zero h
  have hp0 := hp
  unfold partsD at hp
  rw [kinds50] at hp
  change (if _ then _ else _) = _ at hp
  split at hp
  · cases hp
  rename_i hd
  obtain ⟨n0, q0, k0, hp1, rfl⟩ := parts_consJ hp
  obtain ⟨rfl, h0⟩ := fix_someJ k0
  obtain ⟨n1, q1, k1, hp2, rfl⟩ := parts_consJ hp1
  obtain ⟨rfl, h1⟩ := fix_someJ k1
  rw [ext_extJ _ _ _ h0] at hp2
  rw [size_extract' _ _ _ (Nat.le_refl _)] at h1
  rw [ext_subJ _ _ _ (by omega)] at hp0
  obtain ⟨n2, q2, k2, hp3, rfl⟩ := parts_consJ hp2
  obtain ⟨rfl, h2⟩ := fix_someJ k2
  rw [ext_extJ _ _ _ (by omega)] at hp3
  rw [size_extract' _ _ _ (Nat.le_refl _)] at h2
  rw [ext_subJ _ _ _ (by omega)] at hp0
  obtain ⟨n3, q3, k3, hp4, rfl⟩ := parts_consJ hp3
  change cntS _ = some n3 at k3
  unfold cntS at k3
  split at k3
  · cases k3
  rename_i hs
  rw [size_extract' _ _ _ (Nat.le_refl _)] at hs
  have hs4 : bt (d.extract (1 + 1 + 2) d.size) 0 = slZ d := bt_at d 4 (by omega)
  rw [hs4] at hs k3
  have hn3 : n3 = 1 + slZ d := by simpa using k3.symm
  subst hn3
  rw [ext_extJ _ _ _ (by omega)] at hp4
  rw [ext_subJ _ _ _ (by omega)] at hp0
  obtain ⟨n4, q4, k4, hp5, rfl⟩ := parts_consJ hp4
  change hashS _ = some n4 at k4
  unfold hashS at k4
  split at k4
  · cases k4
  rename_i hh
  unfold cntS at hh k4
  split at k4
  · cases k4
  rename_i hh2
  rw [size_extract' _ _ _ (Nat.le_refl _)] at hh2
  have hs5 : bt (d.extract (1 + 1 + 2 + (1 + slZ d)) d.size) 0 = hsZ d := by
    rw [show 1 + 1 + 2 + (1 + slZ d) = 5 + slZ d by omega]
    exact bt_at d (5 + slZ d) (by omega)
  rw [hs5] at hh hh2 k4
  have hn4 : n4 = 1 + hsZ d := by simpa using k4.symm
  subst hn4
  rw [ext_extJ _ _ _ (by omega)] at hp5
  rw [ext_subJ _ _ _ (by omega)] at hp0
  obtain ⟨n5, q5, k5, hp6, rfl⟩ := parts_consJ hp5
  have hq : q5 = [] := by
    unfold partsOf at hp6
    split at hp6
    · simpa using hp6.symm
    · cases hp6
  subst hq
  change setS _ = some n5 at k5
  unfold setS at k5
  rw [show 1 + 1 + 2 + (1 + slZ d) + (1 + hsZ d) = 6 + slZ d + hsZ d by omega] at k5 hp0
  cases ht : typB (d.extract (6 + slZ d + hsZ d) d.size) with
  | none => rw [ht] at k5; cases k5
  | some l =>
    rw [ht] at k5
    have hm : (d.extract (6 + slZ d + hsZ d) d.size).size = n5 := by simpa using k5
    have he : (d.extract (6 + slZ d + hsZ d) d.size).extract 0 n5 = d.extract (6 + slZ d + hsZ d) d.size := by rw [← hm]; exact ByteArray.extract_zero_size
    rw [he] at hp0
    refine ⟨by omega, by omega, ?_, by omega, ⟨l, rfl⟩, ?_⟩
    · rcases Nat.eq_zero_or_pos (hsZ d) with h9 | h9
      · exact absurd (.inr h9) hh
      · exact h9
    · rw [hp0]
      have a1 : 1 + 1 + 2 + (1 + slZ d) = 5 + slZ d := by omega
      rw [a1]
end Go.Proofs.YtgekfhghambacaaGreat

/-
  Proofs: an NSEC3's parts. (The verifier's own text.)
-/
namespace Go.Proofs.YtgekfhghambacaaGreat
set_option linter.unusedVariables false
set_option linter.unusedSimpArgs false
open Go.RowKit Go.Shelf Go.Proofs.YtgekfhghambacaaGreat.Nm

set_option maxRecDepth 100000 in
theorem hasOne_any (s : ByteArray) (w : World) (hm : s.size ≤ 65535) (h : 2 ≤ s.size) :
    Calls Tryz.prog 85 #[.string s, .string ⟨#[1, 0]⟩] w fun e w' => e = .returned (.bool ((s.extract 0 2).toList == [1, 0])) ∧ w' = w := by
  go_enter Tryz.func85, Tryz.ntmps85
  go_wp2
  go_ret
  exact ⟨rfl, rfl⟩
set_option maxRecDepth 100000 in
theorem hasPlain_any (s : ByteArray) (w : World) (hm : s.size ≤ 65535) (h : 2 ≤ s.size) :
    Calls Tryz.prog 79 #[.string s, .string ⟨#[1, 0]⟩] w fun e w' => e = .returned (.bool ((s.extract 0 2).toList == [1, 0])) ∧ w' = w := by
  go_enter Tryz.func79, Tryz.ntmps79
  go_wp2_with (go_at_call 85; refine (hasOne_any _ _ hm h).mono ?_; rintro e w1 ⟨rfl, rfl⟩)
  go_ret
  exact ⟨rfl, rfl⟩
set_option maxRecDepth 100000 in
set_option maxHeartbeats 1000000 in
/-- proof.readWay -/
theorem readWay_any (d : ByteArray) (w : World) (h4 : 5 + slZ d ≤ d.size) (hd : d.size ≤ 65535) :
    Calls Tryz.prog 77 #[.string d] w fun r w' => r = .returned (.tuple #[.agg #[.int .i64 (vN (d.extract 2 4) 2 : Int), .string (d.extract 5 (5 + slZ d))], .string (d.extract (5 + slZ d) d.size)]) ∧ Below w.heap.size w w' := by
  obtain ⟨y, hy, HY, hyl⟩ := bt_wrap (s := d) (i := 4) (by omega)
  have hsl : slZ d = y := HY
  rw [hsl] at h4 ⊢
  have hz : (d.extract 2 4).size = 2 := by rw [size_extract' _ _ _ (by omega)]
  have HV := hide' (fun W => spellValue_any (d.extract 2 4) W (by omega))
  rw [hz] at HV
  generalize vN (d.extract 2 4) 2 = rd at *
  have x0 : Bx (w.alloc (.cells #[.int .i64 0, .string ⟨#[]⟩] 120)) w.heap.size #[.int .i64 0, .string ⟨#[]⟩] 120 := World.alloc_heap_new w _
  have y0 := x0.cell (j := 0) rfl
  have y1 := x0.cell (j := 1) rfl
  have g0 := x0.free 0
  have g1 := x0.free 1
  have HB : Hid (Below w.heap.size w (w.alloc (.cells #[.int .i64 0, .string ⟨#[]⟩] 120))) := (Below.refl _ _).alloc (Nat.le_refl _) _
  have HX := hide' x0
  have b1 : (4 : Int) ≤ (d.size : Int) := by omega
  have b2 : (0 : Int) ≤ 5 + (y : Int) ∧ 5 + (y : Int) ≤ (d.size : Int) := by omega
  have b3 : (5 : Int) ≤ 5 + (y : Int) := by omega
  have b4 : (0 : Int) ≤ 5 + (y : Int) := by omega
  have b5 : 5 + (y : Int) ≤ (d.size : Int) := by omega
  have b6 : (5 + (y : Int)).toNat = 5 + y := by omega
  clear x0 HY hsl hz
  go_enter Tryz.func77, Tryz.ntmps77
  go_wp2_with fail
  go_region_held3 (fun V => True) (first | go_keep | trivial) ((go_at_call 51; refine (HV.out _).mono ?_; rintro r w3 ⟨rfl, rfl⟩))
  all_goals (go_wp2_with fail)
  all_goals (
    have E : Bx ((w.alloc (.cells #[.int .i64 (rd : Int), .string (d.extract 5 (5 + y))] 120)).drew) w.heap.size #[.int .i64 (rd : Int), .string (d.extract 5 (5 + y))] 120 := World.alloc_heap_new w _
    have q0 := E.cell (j := 0) (v := .int .i64 (rd : Int)) rfl
    have q1 := E.cell (j := 1) (v := .string (d.extract 5 (5 + y))) rfl
    refine bodyPost_ret (v := .tuple #[.agg #[.int .i64 (rd : Int), .string (d.extract 5 (5 + y))], .string (d.extract (5 + y) d.size)]) (by simp [results, go_sem, q0, q1, b6]) rfl ⟨rfl, ?_⟩
    exact ((Below.refl _ _).alloc (Nat.le_refl _) _).drew)
set_option maxRecDepth 100000 in
set_option maxHeartbeats 1000000 in
/-- way.hash -/
theorem wayHash_any (rd : Nat) (sl n : ByteArray) (w : World) (hs : sl.size ≤ 255) (hr : rd ≤ 50) (hn : n.size ≤ 1048576) :
    Calls Tryz.prog 155 #[.agg #[.int .i64 (rd : Int), .string sl], .string n] w fun r w' => r = .returned (.string (if isN n = true then hashB n sl rd else ⟨#[]⟩)) ∧ Below w.heap.size w w' := by
  have x0 : Bx (w.alloc (.cells #[.int .i64 (rd : Int), .string sl] 120)) w.heap.size #[.int .i64 (rd : Int), .string sl] 120 := World.alloc_heap_new w _
  have y0 := x0.cell (j := 0) rfl
  have y1 := x0.cell (j := 1) rfl
  have HB : Hid (Below w.heap.size w (w.alloc (.cells #[.int .i64 (rd : Int), .string sl] 120))) := (Below.refl _ _).alloc (Nat.le_refl _) _
  have HH := hide' (fun W => hash_any n sl (rd : Int) W hn (by omega))
  clear x0
  cases hN : isN n with
  | true =>
    rw [hashR_ok hN hs hr] at HH
    rw [if_pos rfl]
    generalize hashB n sl rd = H at *
    go_enter Tryz.func155, Tryz.ntmps155
    go_wp2_with (go_at_call 168; refine (HH.out _).mono ?_; rintro r w1 ⟨rfl, hB⟩; have HB1 := hide' (bstep HB.out hB HB.out.size); clear hB)
    go_ret
    exact ⟨rfl, HB1.out⟩
  | false =>
    rw [hashR_name hN] at HH
    rw [if_neg (by decide)]
    go_enter Tryz.func155, Tryz.ntmps155
    go_wp2_with (go_at_call 168; refine (HH.out _).mono ?_; rintro r w1 ⟨rfl, hB⟩; have HB1 := hide' (bstep HB.out hB HB.out.size); clear hB)
    go_ret
    exact ⟨rfl, HB1.out⟩
/-- an owner's hash -/
def ohB (apex o : ByteArray) : ByteArray := if ((labs o).length : Int) = cntI apex + 1 then (match fromB 5 d32 (lowB ((labs o).headD .empty)) with | some l => bts l | none => .empty) else ⟨#[]⟩
set_option maxRecDepth 100000 in
set_option maxHeartbeats 1000000 in
/-- proof.ownHash -/
theorem ownHash_any (apex o : ByteArray) (w : World) (ha : isN apex = true) (ho : isN o = true) :
    Calls Tryz.prog 78 #[.string apex, .string o] w fun r w' => r = .returned (.string (ohB apex o)) ∧ Below w.heap.size w w' := by
  have haz : apex.size ≤ 255 := ((isN_iff _).1 ha).1
  have hoz : o.size ≤ 255 := ((isN_iff _).1 ho).1
  have HL := hide' (fun W => labels_own o W (by unfold maxLen; omega))
  rw [labsOr_yes ho] at HL
  have HC := hide' (fun W => count_any apex W (by unfold maxLen; omega))
  have hlen := labs_len_le ho
  have HE : Hid (ohB apex o = if ((labs o).length : Int) = cntI apex + 1 then (match fromB 5 d32 (lowB ((labs o).headD .empty)) with | some l => bts l | none => .empty) else ⟨#[]⟩) := rfl
  have hca := labs_len_le ha
  have hcc : cntI apex = ((labs apex).length : Nat) := cntI_yes ha
  rw [HE.out]
  rw [hcc] at HC ⊢
  have hm : ∀ x ∈ labs o, x.size ≤ 63 := fun x hx => (labs_mem hx).2
  generalize (labs apex).length = ca at *
  generalize labs o = lo at *
  clear HE hcc ha ho haz hoz
  by_cases h : (lo.length : Int) = (ca : Int) + 1
  · rw [if_pos h]
    obtain ⟨x, lr, rfl⟩ : ∃ x lr, lo = x :: lr := by
      cases lo with
      | nil => simp at h; omega
      | cons x lr => exact ⟨x, lr, rfl⟩
    obtain rfl : ca = lr.length := by simp at h; omega
    have HF := hide' (fun W => from32_any x W (by have := hm x (by simp); omega))
    show Calls _ _ _ _ fun r w' => r = .returned (.string (match fromB 5 d32 (lowB x) with | some l => bts l | none => .empty)) ∧ _
    have hpos : (0 : Int) < (lr.length : Int) + 1 := by omega
    cases hf : fromB 5 d32 (lowB x) with
    | some l =>
      rw [hf] at HF
      unfold fromEnd at HF
      go_enter Tryz.func78, Tryz.ntmps78
      go_wp2_with (first
        | (go_at_call 83; refine (HL.out _).mono ?_; rintro r w1 ⟨pn, cn, rfl, ⟨hon, -⟩, hB⟩; obtain ⟨gn, og, hpp, hgl, n0⟩ := strsAt_ownJ hon 0 (by simp); subst hpp; have HB1 := hide' hB; have HG := hide' (show gn < w1.heap.size from hgl); have HN0 := hide' n0; clear hB hon n0 hgl)
        | (go_at_call 50; refine (HC.out _).mono ?_; rintro r w2 ⟨rfl, hB⟩; have HB2 := hide' (bstep HB1.out hB HB1.out.size); have n0 : w2.cell? ⟨gn, og, none⟩ = some (.string x) := (hB.cell (p := ⟨gn, og, none⟩) HG.out).trans HN0.out; clear hB)
        | (go_at_call 84; refine (HF.out _).mono ?_; rintro r w3 ⟨rfl, hB⟩; have HB3 := hide' (bstep HB2.out hB HB2.out.size); clear hB))
      go_ret
      exact ⟨rfl, HB3.out⟩
    | none =>
      rw [hf] at HF
      unfold fromEnd at HF
      go_enter Tryz.func78, Tryz.ntmps78
      go_wp2_with (first
        | (go_at_call 83; refine (HL.out _).mono ?_; rintro r w1 ⟨pn, cn, rfl, ⟨hon, -⟩, hB⟩; obtain ⟨gn, og, hpp, hgl, n0⟩ := strsAt_ownJ hon 0 (by simp); subst hpp; have HB1 := hide' hB; have HG := hide' (show gn < w1.heap.size from hgl); have HN0 := hide' n0; clear hB hon n0 hgl)
        | (go_at_call 50; refine (HC.out _).mono ?_; rintro r w2 ⟨rfl, hB⟩; have HB2 := hide' (bstep HB1.out hB HB1.out.size); have n0 : w2.cell? ⟨gn, og, none⟩ = some (.string x) := (hB.cell (p := ⟨gn, og, none⟩) HG.out).trans HN0.out; clear hB)
        | (go_at_call 84; refine (HF.out _).mono ?_; rintro r w3 ⟨rfl, hB⟩; have HB3 := hide' (bstep HB2.out hB HB2.out.size); clear hB))
      go_ret
      exact ⟨rfl, HB3.out⟩
  · rw [if_neg h]
    go_enter Tryz.func78, Tryz.ntmps78
    go_wp2_with (first
      | (go_at_call 83; refine (HL.out _).mono ?_; rintro r w1 ⟨pn, cn, rfl, ⟨hon, -⟩, hB⟩; have HB1 := hide' hB; clear hB hon)
      | (go_at_call 50; refine (HC.out _).mono ?_; rintro r w2 ⟨rfl, hB⟩; have HB2 := hide' (bstep HB1.out hB HB1.out.size); clear hB))
    go_ret
    exact ⟨rfl, HB2.out⟩
end Go.Proofs.YtgekfhghambacaaGreat
