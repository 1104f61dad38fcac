import Derived.Test.YtklpgjgnghdcjaaGreatSgd
import Derived.Test.YtklpgjgnghdcjaaGreatSghG
import Derived.Test.YtklpgjgnghdcjaaGreatSk4G
import Derived.ProofKit
import Derived.OpenShut
import Derived.JoinedCond
import Derived.ShutString
import Derived.ChangeOld
import Derived.SliceStrings
/-
  SealStars: its walk. (The verifier's own text.)
-/
namespace Go.Proofs.YtklpgjgnghdcjaaGreat
set_option linter.unusedVariables false
set_option linter.unusedSimpArgs false
open Go.RowKit Go.Shelf Go.Sort Go.Proofs.YtklpgjgnghdcjaaGreat.Nm

theorem chunks_len : ∀ l : List ByteArray, l.length ≤ (chunks l).size
  | [] => Nat.zero_le _
  | x :: l => by
    have h := chunks_len l
    rw [chunks_cons, ByteArray.size_append, chunk_size, List.length_cons]
    omega
theorem labs_le {n : ByteArray} (h : isN n = true) : (labs n).length ≤ n.size := by
  have h1 := chunks_len (labs n)
  have h2 := putB_size (labs n)
  rw [putB_labs h] at h2
  omega
theorem txt_one (st ah : ByteArray) (dd : List UInt8) : (txL st ah [dd]).length = st.size + (ah.size + 2 + dd.length) := by
  unfold txL
  rw [List.length_append, Array.length_toList]
  have e : [dd].flatMap (lineB ah) = lineB ah dd := by simp
  rw [e, lineB_len]
  rfl
theorem srt_one (x : Rn) : srt (fdL [x]) = [(foldD x.t x.d).data.toList] := by simp [srt, fdL]
theorem txt_small (t0 l0 g0 u b tg : Nat) (F xo : ByteArray) (x : Rn) (hF : F.size ≤ 255) (hx : errD x.t x.d = 0) : (⟨(txL (stB t0 253 l0 g0 u b tg F) (ahB l0 g0 xo t0) (srt (fdL [x]))).toArray⟩ : ByteArray).size ≤ 2097152 := by
  show (txL _ _ _).toArray.size ≤ _
  rw [List.size_toArray, srt_one, txt_one]
  have h1 := foldD_size hx
  have h2 : (foldD x.t x.d).data.toList.length = (foldD x.t x.d).size := by rw [Array.length_toList]; rfl
  have h3 : (stB t0 253 l0 g0 u b tg F).size ≤ 273 := by unfold stB; simp only [ByteArray.size_append, nB_size]; omega
  have h4 : (ahB l0 g0 xo t0).size ≤ 263 := by
    unfold ahB
    have := foldB_small (if (l0 : Int) < lbI xo then starB (tailB xo l0) else xo)
    simp only [ByteArray.size_append, nB_size]
    unfold owB
    omega
  omega
theorem fd_one {x : Rn} (hx : errD x.t x.d = 0) : ∀ y ∈ fdL [x], y.length ≤ 65535 := by
  intro y hy
  simp only [fdL, List.map_cons, List.map_nil, List.mem_singleton] at hy
  subst hy
  rw [Array.length_toList]
  exact foldD_size hx
theorem signE_zero {f m e s : Int} {n : ByteArray} {L : List Rn} {b u : Int} (h : signE f m e s n L b u = 0) : isN n = true ∧ setOK L = true ∧ oneAge L = true ∧ withinB (hdR L).o n = true ∧ rkB f m e s = true ∧ ¬ (b < 0 ∨ u < b ∨ 4294967295 < u) := by
  unfold signE at h
  by_cases h1 : rkB f m e s = false
  · rw [if_pos h1] at h; cases h
  rw [if_neg h1] at h
  by_cases h2 : isN n = false
  · rw [if_pos h2] at h; cases h
  rw [if_neg h2] at h
  by_cases h3 : b < 0 ∨ u < b ∨ 4294967295 < u
  · rw [if_pos h3] at h; cases h
  rw [if_neg h3] at h
  by_cases h4 : setOK L = false ∨ oneAge L = false
  · rw [if_pos h4] at h; cases h
  rw [if_neg h4] at h
  by_cases h5 : withinB (hdR L).o n = false
  · rw [if_pos h5] at h; cases h
  have h6 : setOK L = true ∧ oneAge L = true := by
    constructor
    · cases hs : setOK L with | true => rfl | false => exact absurd (.inl hs) h4
    · cases hs : oneAge L with | true => rfl | false => exact absurd (.inr hs) h4
  exact ⟨by simpa using h2, h6.1, h6.2, by simpa using h5, by simpa using h1, h3⟩
set_option maxRecDepth 100000 in
set_option maxHeartbeats 8000000 in
theorem stars_all (n d : ByteArray) (t : Int) (pa : Option Addr) (ca : Nat) (ah : List ByteArray) (m c s R G : Nat) (w V : World) (hK : KY m c s) (hn : n.size ≤ 1048576) (hd : d.size ≤ 1048576) (hst : StrsAt w pa ah) (hno : pa = none → ca = 0) (hal : ah.length + n.size ≤ 1048576) (haz : ∀ x ∈ ah, x.size ≤ 1048576)
    (HP : Hid (Sp w V R G #[.int .i64 256, .int .i64 (m : Int), .int .i64 (c : Int), .int .i64 (s : Int)] #[.string (starB n), .int .i64 t, .int .i64 1, .int .i64 60, .string d])) (x0 x1 x2 x5 x6 x7 x8 x9 x10 x11 x12 x13 x14 x16 x17 x18 x20 x21 x22 x23 x24 x25 x26 x27 x28 x29 x30 x31 x32 x33 x34 x35 x36 x37 x38 x39 x40 x41 x42 x43 x44 x45 x46 x47 x48 x49 x50 x51 x52 x53 x54 x55 x56 x57 x58 x59 x60 x61 x62 x63 x64 x65 x66 x67 x68 x69 x70 x71 x72 x73 x74 x75 x76 x77 x78 x79 x80 x81 x82 x83 x84 x85 x86 x87 x88 x89 x90 x91 x92 x93 x94 x95 x96 x97 x98 x99 x100 x101 x102 x103 x104 x105 x106 x107 : Value) :
    Code.wp Tryz.prog (((Tryz.f6.body.map (tailsS 7)).getD []).getD 0 .skip) (bodyPost Tryz.prog Tryz.f6 fun r w' => r = .returned (.bool true) ∧ Below w.heap.size w w') ⟨List.toArray (x0 :: x1 :: x2 :: (.string n : Value) :: (.slice pa ah.length ca : Value) :: x5 :: x6 :: x7 :: x8 :: x9 :: x10 :: x11 :: x12 :: x13 :: x14 :: (.pointer (some ⟨R, 0, none⟩) : Value) :: x16 :: x17 :: x18 :: (.slice (some ⟨G, 0, none⟩) 1 1 : Value) :: x20 :: x21 :: x22 :: x23 :: x24 :: x25 :: x26 :: x27 :: x28 :: x29 :: x30 :: x31 :: x32 :: x33 :: x34 :: x35 :: x36 :: x37 :: x38 :: x39 :: x40 :: x41 :: x42 :: x43 :: x44 :: x45 :: x46 :: x47 :: x48 :: x49 :: x50 :: x51 :: x52 :: x53 :: x54 :: x55 :: x56 :: x57 :: x58 :: x59 :: x60 :: x61 :: x62 :: x63 :: x64 :: x65 :: x66 :: x67 :: x68 :: x69 :: x70 :: x71 :: x72 :: x73 :: x74 :: x75 :: x76 :: x77 :: x78 :: x79 :: x80 :: x81 :: x82 :: x83 :: x84 :: x85 :: x86 :: x87 :: x88 :: x89 :: x90 :: x91 :: x92 :: x93 :: x94 :: x95 :: x96 :: x97 :: x98 :: x99 :: x100 :: x101 :: x102 :: x103 :: x104 :: x105 :: x106 :: x107 :: []), []⟩ V := by
  have hsz : ∀ o : ByteArray, o.size ≤ maxLen → ∀ r ∈ ([⟨o, t, 1, 60, d⟩] : List Rn), r.o.size ≤ maxLen ∧ r.d.size ≤ 9223372036854775807 := fun o ho r hr => by
    rw [List.mem_singleton] at hr
    subst hr
    exact ⟨ho, by show d.size ≤ _; omega⟩
  have hsn := star_small n
  have hnm : n.size ≤ maxLen := by unfold maxLen; omega
  by_cases hE : signE 256 m c s n [⟨starB n, t, 1, 60, d⟩] 0 9 = 0
  · obtain ⟨hN, h4, h5, h6, h1, -⟩ := signE_zero hE
    change withinB (starB n) n = true at h6
    have h4' := h4
    rw [set_one, strB_self] at h4'
    simp only [Bool.and_eq_true, Bool.not_eq_true', Bool.or_eq_false_iff, Bool.not_eq_false', beq_eq_false_iff_ne] at h4'
    obtain ⟨ht46, hzon, -⟩ := h4'
    obtain ⟨hSN, -, -, -, herr, htl, htu, hdz⟩ := zon_of hzon
    obtain ⟨t0, rfl⟩ : ∃ t0 : Nat, t = (t0 : Int) := ⟨t.toNat, by omega⟩
    obtain ⟨-, hn253, hlabs, -⟩ := star_facts hSN
    have hl := lb_star hSN
    have hll := labs_len_le hN
    have hmm : 65537 ≤ m ∧ m ≤ 2147483647 ∧ s ≤ 2147483647 := by obtain ⟨a, b, -, -, -, -, h1, h2, -, -, -, h3⟩ := hK; exact ⟨h1, h2, h3⟩
    have hFz := foldB_small n
    have hsnz : (starB n).size ≤ 255 := ((isN_iff _).1 hSN).1
    obtain ⟨T, hT⟩ : ∃ T, (⟨(txL (stB t0 253 (labs n).length 60 9 0 (tagN (pubB 256 m c s)) (foldB n)) (ahB (labs n).length 60 (starB n) t0) (srt (fdL [⟨starB n, (t0 : Int), 1, 60, d⟩]))).toArray⟩ : ByteArray) = T := ⟨_, rfl⟩
    have hTz : T.size ≤ 2097152 := by rw [← hT]; exact txt_small _ _ _ _ _ _ _ _ _ hFz herr
    have hfd := fd_one (x := ⟨starB n, (t0 : Int), 1, 60, d⟩) herr
    have HSG : Hid (∀ W : World, RsAt W (some ⟨G, 0, none⟩) [⟨starB n, (t0 : Int), 1, 60, d⟩] → Calls Tryz.prog 8 #[.agg #[.int .i64 256, .int .i64 (m : Int), .int .i64 (c : Int), .int .i64 (s : Int)], .string n, .slice (some ⟨G, 0, none⟩) 1 1, .int .i64 0, .int .i64 9] W fun r w' => r = .returned (.tuple #[.agg #[.string (starB n), .int .i64 46, .int .i64 1, .int .i64 60, .string (sgD 256 m c s t0 (labs n).length 60 9 0 (foldB n) T)], .int .i64 0]) ∧ Below W.heap.size W w') := fun W h =>
      sign_yes 256 m c s n [⟨starB n, (t0 : Int), 1, 60, d⟩] (some ⟨G, 0, none⟩) 1 0 9 W (starB n) d 1 t0 60 (labs n).length _ (foldB n) T hnm (by simp) h (hsz _ hsn) rfl h1 hN (by omega) (by omega) h4 h5 h6 (by omega) (by omega) hl (by omega) rfl rfl hT hTz hfd hsnz (by omega) (by omega) (by omega)
    have HLB : Hid (∀ W : World, Calls Tryz.prog 18 #[.string n] W fun e W' => ∃ p c, e = .returned (.slice p (labs n).length c) ∧ StrsAt W' p (labs n) ∧ (p = none → c = 0) ∧ Below W.heap.size W W') := fun W => labels_row n W hnm hN
    have hjl : ah.length + (labs n).length ≤ 1048576 := by have := labs_le hN; omega
    have HJ : ∀ fu er, joinB (ah ++ labs n) = (fu, er) → Hid (∀ (W : World) (p : Option Addr) (c : Nat), StrsAt W p (ah ++ labs n) → Calls Tryz.prog 17 #[.slice p (ah.length + (labs n).length) c] W fun r w' => r = .returned (.tuple #[.string fu, .int .i64 er]) ∧ Below W.heap.size W w') := fun fu er hj W p c h => by
      have h9 := join_any p c (ah ++ labs n) W h (by rw [List.length_append]; omega) (fun x hx => by
        rcases List.mem_append.1 hx with hx | hx
        · exact haz x hx
        · have := (okL_labs n x hx).2; omega)
      rw [hj, List.length_append] at h9
      exact h9
    have HPU : Hid (∀ W : World, Calls Tryz.prog 15 #[.agg #[.int .i64 256, .int .i64 (m : Int), .int .i64 (c : Int), .int .i64 (s : Int)]] W fun r w' => r = .returned (.string (pubB 256 m c s)) ∧ Below W.heap.size W w') := fun W => public_any 256 m c s W
    have HV : ∀ now : Int, Hid (∀ W : World, RsAt W (some ⟨G, 0, none⟩) [⟨starB n, (t0 : Int), 1, 60, d⟩] → Calls Tryz.prog 11 #[.slice (some ⟨G, 0, none⟩) 1 1, .agg #[.string (starB n), .int .i64 46, .int .i64 1, .int .i64 60, .string (sgD 256 m c s t0 (labs n).length 60 9 0 (foldB n) T)], .string n, .string (pubB 256 m c s), .int .i64 now] W fun r w' => r = .returned (.int .i64 (if now < ((0 : Nat) : Int) ∨ ((9 : Nat) : Int) < now then 25 else 0)) ∧ Below W.heap.size W w') := fun now W h =>
      verify_round [⟨starB n, (t0 : Int), 1, 60, d⟩] (some ⟨G, 0, none⟩) 1 (starB n) n (starB n) (foldB n) T n 60 now 256 m c s t0 (labs n).length 60 9 0 W hK (.inl rfl) (by simp) h (hsz _ hsn) h4 rfl rfl hSN hN rfl (within_fold h6) (eq_fold hN) hnm hSN (eq_self hSN) (by omega) (by omega) (by omega) (by omega) (by omega) (by omega) (by omega) (by rw [hl]; exact Int.le_refl _) hfd hT hTz
    have HVT := HV 10
    rw [if_pos (.inr (by decide))] at HVT
    have HV9 := HV 9
    rw [if_neg (by decide)] at HV9
    by_cases hok : OkL (ah ++ labs n) ∧ (putB (ah ++ labs n)).size ≤ 255
    · have HJN := HJ _ _ (joinB_ok hok.1 hok.2)
      by_cases hah : ah = []
      · exact stars_j0b n d (starB n) (pubB 256 m c s) t0 pa ca ah m c s R G w V HP _ _ _ hst hno (by unfold Hid; omega) hll HSG HLB HJN HPU HVT HV9 rfl (by rw [hah]; rfl) x0 x1 x2 x5 x6 x7 x8 x9 x10 x11 x12 x13 x14 x16 x17 x18 x20 x21 x22 x23 x24 x25 x26 x27 x28 x29 x30 x31 x32 x33 x34 x35 x36 x37 x38 x39 x40 x41 x42 x43 x44 x45 x46 x47 x48 x49 x50 x51 x52 x53 x54 x55 x56 x57 x58 x59 x60 x61 x62 x63 x64 x65 x66 x67 x68 x69 x70 x71 x72 x73 x74 x75 x76 x77 x78 x79 x80 x81 x82 x83 x84 x85 x86 x87 x88 x89 x90 x91 x92 x93 x94 x95 x96 x97 x98 x99 x100 x101 x102 x103 x104 x105 x106 x107
      · obtain ⟨f1, f2, f3, f4⟩ := full_facts hN hok.1 hok.2 hah hSN
        have hfz := ((isN_iff _).1 f1).1
        have h4f : setOK [⟨putB (ah ++ labs n), (t0 : Int), 1, 60, d⟩] = true := by
          rw [set_one, strB_self]
          have hz2 : zonB (putB (ah ++ labs n)) d t0 1 60 = true := by
            have := hzon
            unfold zonB at this ⊢
            rw [hSN] at this
            rw [f1]
            exact this
          simp only [Bool.and_eq_true, Bool.not_eq_true', Bool.or_eq_false_iff, Bool.not_eq_false', beq_eq_false_iff_ne]
          exact ⟨ht46, hz2, eq_self f1⟩
        have hT2 : (⟨(txL (stB t0 253 (labs n).length 60 9 0 (tagN (pubB 256 m c s)) (foldB n)) (ahB (labs n).length 60 (putB (ah ++ labs n)) t0) (srt (fdL [⟨putB (ah ++ labs n), (t0 : Int), 1, 60, d⟩]))).toArray⟩ : ByteArray) = T := by
          rw [← hT]
          have ha : ahB (labs n).length 60 (putB (ah ++ labs n)) t0 = ahB (labs n).length 60 (starB n) t0 := by unfold ahB; rw [f3, ow_star hSN]
          rw [ha]
          rfl
        have HV2 : Hid (∀ W : World, RsAt W (some ⟨G, 0, none⟩) [⟨putB (ah ++ labs n), (t0 : Int), 1, 60, d⟩] → Calls Tryz.prog 11 #[.slice (some ⟨G, 0, none⟩) 1 1, .agg #[.string (putB (ah ++ labs n)), .int .i64 46, .int .i64 1, .int .i64 60, .string (sgD 256 m c s t0 (labs n).length 60 9 0 (foldB n) T)], .string n, .string (pubB 256 m c s), .int .i64 9] W fun r w' => r = .returned (.int .i64 0) ∧ Below W.heap.size W w') := fun W h => by
          have h9 := verify_round [⟨putB (ah ++ labs n), (t0 : Int), 1, 60, d⟩] (some ⟨G, 0, none⟩) 1 (putB (ah ++ labs n)) n (putB (ah ++ labs n)) (foldB n) T n 60 9 256 m c s t0 (labs n).length 60 9 0 W hK (.inl rfl) (by simp) h (hsz _ (by unfold maxLen; omega)) h4f rfl rfl f1 hN rfl f4 (eq_fold hN) hnm f1 (eq_self f1) (by omega) (by omega) (by omega) (by omega) (by omega) (by omega) (by omega) f2 (fd_one (x := ⟨putB (ah ++ labs n), (t0 : Int), 1, 60, d⟩) herr) hT2 hTz
          rw [if_neg (by decide)] at h9
          exact h9
        exact stars_j1 n d (starB n) (pubB 256 m c s) t0 pa ca ah m c s R G w V HP _ _ _ hst hno (by unfold Hid; omega) hll HSG HLB HJN HPU HVT HV2 rfl (by have : 0 < ah.length := List.length_pos_iff.2 hah; omega) x0 x1 x2 x5 x6 x7 x8 x9 x10 x11 x12 x13 x14 x16 x17 x18 x20 x21 x22 x23 x24 x25 x26 x27 x28 x29 x30 x31 x32 x33 x34 x35 x36 x37 x38 x39 x40 x41 x42 x43 x44 x45 x46 x47 x48 x49 x50 x51 x52 x53 x54 x55 x56 x57 x58 x59 x60 x61 x62 x63 x64 x65 x66 x67 x68 x69 x70 x71 x72 x73 x74 x75 x76 x77 x78 x79 x80 x81 x82 x83 x84 x85 x86 x87 x88 x89 x90 x91 x92 x93 x94 x95 x96 x97 x98 x99 x100 x101 x102 x103 x104 x105 x106 x107
    · have hj : ∃ er, joinB (ah ++ labs n) = (ByteArray.empty, er) ∧ ¬ er = 0 := by
        unfold joinB
        by_cases hb : okLB (ah ++ labs n) = true
        · rw [if_pos hb, if_neg (fun h => hok ⟨(okLB_iff _).1 hb, h⟩)]
          exact ⟨4, rfl, by decide⟩
        · rw [if_neg hb]
          exact ⟨3, rfl, by decide⟩
      obtain ⟨er, hj, her⟩ := hj
      exact stars_j0 n d (starB n) (pubB 256 m c s) t0 pa ca ah m c s R G w V HP _ _ _ hst hno (by unfold Hid; omega) hll HSG HLB (HJ _ _ hj) HPU HVT HV9 her x0 x1 x2 x5 x6 x7 x8 x9 x10 x11 x12 x13 x14 x16 x17 x18 x20 x21 x22 x23 x24 x25 x26 x27 x28 x29 x30 x31 x32 x33 x34 x35 x36 x37 x38 x39 x40 x41 x42 x43 x44 x45 x46 x47 x48 x49 x50 x51 x52 x53 x54 x55 x56 x57 x58 x59 x60 x61 x62 x63 x64 x65 x66 x67 x68 x69 x70 x71 x72 x73 x74 x75 x76 x77 x78 x79 x80 x81 x82 x83 x84 x85 x86 x87 x88 x89 x90 x91 x92 x93 x94 x95 x96 x97 x98 x99 x100 x101 x102 x103 x104 x105 x106 x107
  · exact stars_no n d (starB n) .empty t pa ca ah m c s R G w V HP _ hE (fun W h => sign_no 256 m c s n [⟨starB n, t, 1, 60, d⟩] (some ⟨G, 0, none⟩) 1 0 9 W hnm (by simp) h (hsz _ hsn) hE) x0 x1 x2 x5 x6 x7 x8 x9 x10 x11 x12 x13 x14 x16 x17 x18 x20 x21 x22 x23 x24 x25 x26 x27 x28 x29 x30 x31 x32 x33 x34 x35 x36 x37 x38 x39 x40 x41 x42 x43 x44 x45 x46 x47 x48 x49 x50 x51 x52 x53 x54 x55 x56 x57 x58 x59 x60 x61 x62 x63 x64 x65 x66 x67 x68 x69 x70 x71 x72 x73 x74 x75 x76 x77 x78 x79 x80 x81 x82 x83 x84 x85 x86 x87 x88 x89 x90 x91 x92 x93 x94 x95 x96 x97 x98 x99 x100 x101 x102 x103 x104 x105 x106 x107
end Go.Proofs.YtklpgjgnghdcjaaGreat

/-
  SealStars: its walk. (The verifier's own text.)
-/
namespace Go.Proofs.YtklpgjgnghdcjaaGreat
set_option linter.unusedVariables false
set_option linter.unusedSimpArgs false
open Go.RowKit Go.Shelf Go.Sort Go.Proofs.YtklpgjgnghdcjaaGreat.Nm

theorem keyR_cases (p q e : Int) : (∃ m c s : Nat, keyR p q e 256 = .tuple #[.agg #[.int .i64 256, .int .i64 (m : Int), .int .i64 (c : Int), .int .i64 (s : Int)], .int .i64 0] ∧ KY m c s) ∨ keyR p q e 256 = .tuple #[.agg #[.int .i64 0, .int .i64 0, .int .i64 0, .int .i64 0], .int .i64 24] := by
  by_cases h : KeyOK p q e 256
  · exact .inl (ky_of h)
  · exact .inr (keyR_no h)
set_option maxRecDepth 100000 in
theorem key_first : KeyOK 251 263 3 256 := (keyOKB_iff _ _ _ _).1 (by kernel_rfl)
set_option maxRecDepth 100000 in
set_option maxHeartbeats 8000000 in
theorem stars_any (p q e t : Int) (n d : ByteArray) (pa : Option Addr) (ca : Nat) (ah : List ByteArray) (w : World) (hn : n.size ≤ 1048576) (hd : d.size ≤ 1048576) (hst : StrsAt w pa ah) (hno : pa = none → ca = 0) (hal : ah.length + n.size ≤ 1048576) (haz : ∀ x ∈ ah, x.size ≤ 1048576) :
    Calls Tryz.prog 6 #[.int .i64 p, .int .i64 q, .int .i64 e, .string n, .slice pa ah.length ca, .int .i64 t, .string d] w fun r w' => r = .returned (.bool true) ∧ Below w.heap.size w w' := by
  obtain ⟨m0, c0, s0, hk0, hK0⟩ := ky_of key_first
  have HN0 := hide' (fun w => newKey_any 251 263 3 256 w)
  rw [hk0] at HN0
  have HN1 := hide' (fun w => newKey_any p q e 256 w)
  have HSTA := hide' (fun w => star_any n w (by unfold maxLen; omega))
  have HK0 := hide' hK0
  have HALL := hide' (fun (m c s R G : Nat) (V : World) (hK : KY m c s) (HP : Hid (Sp w V R G #[.int .i64 256, .int .i64 (m : Int), .int .i64 (c : Int), .int .i64 (s : Int)] #[.string (starB n), .int .i64 t, .int .i64 1, .int .i64 60, .string d])) => stars_all n d t pa ca ah m c s R G w V hK hn hd hst hno hal haz HP)
  generalize starB n = sn at *
  clear hK0 hk0 hn hd hst hno hal haz
  have T1 : Hid True := trivial
  rcases keyR_cases p q e with ⟨m, c, s, hk, hK⟩ | hk
  · rw [hk] at HN1
    have HK := hide' hK
    clear hK hk
    go_enter Tryz.func6, Tryz.ntmps6
    go_upto_region 7 with (first
      | (go_at_call 13; have _ := T1; clear T1; refine (HN0.out _).mono ?_; rintro r w1 ⟨rfl, hB1⟩; have X1 : Hid (Bx (w1.alloc (.cells #[.int .i64 256, .int .i64 (m0 : Int), .int .i64 (c0 : Int), .int .i64 (s0 : Int)] 23)) w1.heap.size #[.int .i64 256, .int .i64 (m0 : Int), .int .i64 (c0 : Int), .int .i64 (s0 : Int)] 23) := World.alloc_heap_new w1 _; have B1 : Hid (Below w.heap.size w (w1.alloc (.cells #[.int .i64 256, .int .i64 (m0 : Int), .int .i64 (c0 : Int), .int .i64 (s0 : Int)] 23))) := hB1.alloc hB1.size _; have S1 := hide' hB1.size; clear hB1)
      | (go_at_call 13; refine (HN1.out _).mono ?_; rintro r w2 ⟨rfl, hB2⟩; have X2 := hide' ((X1.out.below hB2 X1.out.lt).grown (World.grownBy_alloc w2 (.cells #[.int .i64 256, .int .i64 (m : Int), .int .i64 (c : Int), .int .i64 (s : Int)] 23) none) (by simp)); have B2 := hide' (Below.alloc (bstep B1.out hB2 B1.out.size) (bstep B1.out hB2 B1.out.size).size (.cells #[.int .i64 256, .int .i64 (m : Int), .int .i64 (c : Int), .int .i64 (s : Int)] 23)); have x0 := X2.out.cell (j := 0) rfl; have x1 := X2.out.cell (j := 1) rfl; have x2 := X2.out.cell (j := 2) rfl; have x3 := X2.out.cell (j := 3) rfl; have f0 := X2.out.free 0; have f1 := X2.out.free 1; have f2 := X2.out.free 2; have f3 := X2.out.free 3; clear hB2))
    rename_i KK hKK
    have HKK := hide' hKK
    clear hKK
    obtain ⟨R, hR⟩ : ∃ R, w1.heap.size = R := ⟨_, rfl⟩
    have X4 := (((X2.out.set 0 (.int .i64 256)).set 1 (.int .i64 (m : Int))).set 2 (.int .i64 (c : Int))).set 3 (.int .i64 (s : Int))
    have B4 := (((B2.out.setCell (p := ⟨w1.heap.size, 0, none⟩) S1.out (.int .i64 256)).setCell (p := ⟨w1.heap.size, 1, none⟩) S1.out (.int .i64 (m : Int))).setCell (p := ⟨w1.heap.size, 2, none⟩) S1.out (.int .i64 (c : Int))).setCell (p := ⟨w1.heap.size, 3, none⟩) S1.out (.int .i64 (s : Int))
    obtain ⟨W4, hW4⟩ : ∃ W4, ((((w2.alloc (.cells #[.int .i64 256, .int .i64 (m : Int), .int .i64 (c : Int), .int .i64 (s : Int)] 23)).setCell ⟨w1.heap.size, 0, none⟩ (.int .i64 256)).setCell ⟨w1.heap.size, 1, none⟩ (.int .i64 (m : Int))).setCell ⟨w1.heap.size, 2, none⟩ (.int .i64 (c : Int))).setCell ⟨w1.heap.size, 3, none⟩ (.int .i64 (s : Int)) = W4 := ⟨_, rfl⟩
    rw [hW4] at X4 B4
    have HX4 : Hid (Bx W4 R #[.int .i64 256, .int .i64 (m : Int), .int .i64 (c : Int), .int .i64 (s : Int)] 23) := by unfold Hid; rw [← hR]; simpa using X4
    have HB4 := hide' B4
    have HR : Hid (w.heap.size ≤ R) := by rw [← hR]; exact S1.out
    simp only [hW4]
    simp only [hR]
    clear hW4 hR X4 B4 X1 X2 x0 x1 x2 x3 f0 f1 f2 f3 B1 B2 S1
    go_wp2_with (go_at_call 16; refine (HSTA.out _).mono ?_; rintro r w5 ⟨rfl, hB5⟩; have HX5 := hide' (HX4.out.below hB5 HX4.out.lt); have HB5 := hide' (bstep HB4.out hB5 HB4.out.size); clear hB5)
    refine HKK.out _ _ ?_
    exact HALL.out m c s R w5.heap.size _ HK.out (show Hid (Sp w _ R _ _ _) from ⟨HX5.out.grown (World.grownBy_alloc _ _ none) (by simp), World.alloc_heap_new w5 _, HB5.out.alloc HB5.out.size _, HR.out, HX5.out.lt⟩) _ _ _ _ _ _ _ _ _ _ _ _ _ _ _ _ _ _ _ _ _ _ _ _ _ _ _ _ _ _ _ _ _ _ _ _ _ _ _ _ _ _ _ _ _ _ _ _ _ _ _ _ _ _ _ _ _ _ _ _ _ _ _ _ _ _ _ _ _ _ _ _ _ _ _ _ _ _ _ _ _ _ _ _ _ _ _ _ _ _ _ _ _ _ _ _ _ _ _ _ _ _ _ _
  · rw [hk] at HN1
    clear hk
    go_enter Tryz.func6, Tryz.ntmps6
    go_upto_region 7 with (first
      | (go_at_call 13; have _ := T1; clear T1; refine (HN0.out _).mono ?_; rintro r w1 ⟨rfl, hB1⟩; have X1 : Hid (Bx (w1.alloc (.cells #[.int .i64 256, .int .i64 (m0 : Int), .int .i64 (c0 : Int), .int .i64 (s0 : Int)] 23)) w1.heap.size #[.int .i64 256, .int .i64 (m0 : Int), .int .i64 (c0 : Int), .int .i64 (s0 : Int)] 23) := World.alloc_heap_new w1 _; have B1 : Hid (Below w.heap.size w (w1.alloc (.cells #[.int .i64 256, .int .i64 (m0 : Int), .int .i64 (c0 : Int), .int .i64 (s0 : Int)] 23))) := hB1.alloc hB1.size _; have S1 := hide' hB1.size; clear hB1)
      | (go_at_call 13; refine (HN1.out _).mono ?_; rintro r w2 ⟨rfl, hB2⟩; have X2 := hide' ((X1.out.below hB2 X1.out.lt).grown (World.grownBy_alloc w2 (.cells #[.int .i64 0, .int .i64 0, .int .i64 0, .int .i64 0] 23) none) (by simp)); have B2 := hide' (Below.alloc (bstep B1.out hB2 B1.out.size) (bstep B1.out hB2 B1.out.size).size (.cells #[.int .i64 0, .int .i64 0, .int .i64 0, .int .i64 0] 23)); have x0 := X2.out.cell (j := 0) rfl; have x1 := X2.out.cell (j := 1) rfl; have x2 := X2.out.cell (j := 2) rfl; have x3 := X2.out.cell (j := 3) rfl; have f0 := X2.out.free 0; have f1 := X2.out.free 1; have f2 := X2.out.free 2; have f3 := X2.out.free 3; clear hB2))
    rename_i KK hKK
    have HKK := hide' hKK
    clear hKK
    obtain ⟨R, hR⟩ : ∃ R, w1.heap.size = R := ⟨_, rfl⟩
    obtain ⟨W4, hW4⟩ : ∃ W4, w2.alloc (.cells #[.int .i64 0, .int .i64 0, .int .i64 0, .int .i64 0] 23) = W4 := ⟨_, rfl⟩
    have HX4 : Hid (Bx W4 R #[.int .i64 256, .int .i64 (m0 : Int), .int .i64 (c0 : Int), .int .i64 (s0 : Int)] 23) := by rw [← hR, ← hW4]; exact X2.out
    have HB4 : Hid (Below w.heap.size w W4) := by rw [← hW4]; exact B2.out
    have HR : Hid (w.heap.size ≤ R) := by rw [← hR]; exact S1.out
    simp only [hW4]
    simp only [hR]
    clear hW4 hR X1 X2 x0 x1 x2 x3 f0 f1 f2 f3 B1 B2 S1
    go_wp2_with (go_at_call 16; refine (HSTA.out _).mono ?_; rintro r w5 ⟨rfl, hB5⟩; have HX5 := hide' (HX4.out.below hB5 HX4.out.lt); have HB5 := hide' (bstep HB4.out hB5 HB4.out.size); clear hB5)
    refine HKK.out _ _ ?_
    exact HALL.out m0 c0 s0 R w5.heap.size _ HK0.out (show Hid (Sp w _ R _ _ _) from ⟨HX5.out.grown (World.grownBy_alloc _ _ none) (by simp), World.alloc_heap_new w5 _, HB5.out.alloc HB5.out.size _, HR.out, HX5.out.lt⟩) _ _ _ _ _ _ _ _ _ _ _ _ _ _ _ _ _ _ _ _ _ _ _ _ _ _ _ _ _ _ _ _ _ _ _ _ _ _ _ _ _ _ _ _ _ _ _ _ _ _ _ _ _ _ _ _ _ _ _ _ _ _ _ _ _ _ _ _ _ _ _ _ _ _ _ _ _ _ _ _ _ _ _ _ _ _ _ _ _ _ _ _ _ _ _ _ _ _ _ _ _ _ _ _
end Go.Proofs.YtklpgjgnghdcjaaGreat

namespace Go.Proofs.YtklpgjgnghdcjaaGreat.sealStarsP
set_option linter.unusedVariables false
open Go.ChangeShapes Go.WideShapes Go.ChangeAt Go.RowKit
open Go.ChangeMaps (open_string shut_string)

theorem own : ownKnob Tryz.prog.godebug = none := by kernel_rfl
theorem laidOut : laidOutB Tryz.prog = true := by kernel_rfl

theorem cell_lt {W : World} {a : Addr} {v : Value} (h : W.cell? a = some v) : a.block < W.heap.size := by
  unfold World.cell? at h
  split at h
  · rename_i c e f hb
    exact (Array.getElem?_eq_some_iff.1 hb).1
  · cases h

theorem bulk_strs {H : Type} (l : List ByteArray) : l.length ≤ Rows.uptoBulkAll (H := H) (strs l) ∧ ∀ x ∈ l, x.size ≤ Rows.uptoBulkAll (H := H) (strs l) := by
  induction l with
  | nil => exact ⟨Nat.zero_le _, fun x hx => by cases hx⟩
  | cons y l ih =>
    have e : Rows.uptoBulkAll (H := H) (strs (y :: l)) = (y.data.toList.length + 1) + Rows.uptoBulkAll (H := H) (strs l) := rfl
    have hz : y.data.toList.length = y.size := by rw [Array.length_toList]; rfl
    rw [e]
    refine ⟨by rw [List.length_cons]; omega, fun x hx => ?_⟩
    rcases List.mem_cons.1 hx with rfl | h
    · omega
    · have := ih.2 x h; omega

set_option maxRecDepth 100000 in
theorem contract (H : Type) (enc : TypeId × Value → H) (W : World) (base : Nat) (args : Array Value) (ds gs : List (DataW H)) (before : List MemPlace)
    (hval : ∀ (j : Nat) t v, Tryz.f6.params[j]? = some t → args[j]? = some v → Value.okWide Tryz.prog W .any base t v)
    (hW : DataW.Whole enc Tryz.prog Tryz.f6.params.toList Rows.sealStarsSpec.vars false W args.toList ds gs before) (hk : Rows.uptoSmall H (ds ++ gs) = true) :
    Calls Tryz.prog 6 args W fun e W' => ∃ v, e = .returned v ∧ Rows.sealStarsSpec.post enc Tryz.prog Tryz.f6 false true false false W args v W' := by
  have hW' := hW
  obtain ⟨p, q, hA0, hV, rfl, _, _⟩ := hW
  have hA : DataW.TrodAll enc Tryz.prog W 0 (fun _ => true) true Tryz.f6.params.toList args.toList ds p := hA0
  rw [Tryz.params6] at hA hval
  obtain ⟨v0, vs0, d0, ds0, p0, q0, hargs, rfl, rfl, h0, r0⟩ := trodAll_cons hA
  obtain ⟨v1, vs1, d1, ds1, p1, q1, rfl, rfl, rfl, h1, r1⟩ := trodAll_cons r0
  obtain ⟨v2, vs2, d2, ds2, p2, q2, rfl, rfl, rfl, h2, r2⟩ := trodAll_cons r1
  obtain ⟨v3, vs3, d3, ds3, p3, q3, rfl, rfl, rfl, h3, r3⟩ := trodAll_cons r2
  obtain ⟨v4, vs4, d4, ds4, p4, q4, rfl, rfl, rfl, h4, r4⟩ := trodAll_cons r3
  obtain ⟨v5, vs5, d5, ds5, p5, q5, rfl, rfl, rfl, h5, r5⟩ := trodAll_cons r4
  obtain ⟨v6, vs6, d6, ds6, p6, q6, rfl, rfl, rfl, h6, r6⟩ := trodAll_cons r5
  obtain ⟨rfl, rfl, rfl⟩ := trodAll_nil r6
  obtain rfl : args = #[v0, v1, v2, v3, v4, v5, v6] := by cases args; simp_all
  obtain ⟨rfl, rfl⟩ := trodVars_none hV
  obtain ⟨a0, rfl, rfl, rfl, w0⟩ := open_int Tryz.underlying3 (hval 0 3 v0 rfl rfl) h0
  obtain ⟨a1, rfl, rfl, rfl, w1⟩ := open_int Tryz.underlying3 (hval 1 3 v1 rfl rfl) h1
  obtain ⟨a2, rfl, rfl, rfl, w2⟩ := open_int Tryz.underlying3 (hval 2 3 v2 rfl rfl) h2
  obtain ⟨a5, rfl, rfl, rfl, w5⟩ := open_int Tryz.underlying3 (hval 5 3 v5 rfl rfl) h5
  obtain ⟨s3, rfl, rfl, rfl, m3⟩ := open_string Tryz.underlying9 (hval 3 9 v3 rfl rfl) h3
  obtain ⟨s6, rfl, rfl, rfl, m6⟩ := open_string Tryz.underlying9 (hval 6 9 v6 rfl rfl) h6
  obtain ⟨b4, len1, cap1, rfl⟩ := okWide_slice Tryz.underlying41 (hval 4 41 v4 rfl rfl)
  have k1 := h4
  have lt1 : ∀ x ∈ p4, x.block < W.heap.size := by obtain ⟨m, hm⟩ := k1; exact DataW.trod_lt m _ _ _ hm
  obtain ⟨l, rfl, hst, hnone, hd⟩ : ∃ l : List ByteArray, len1 = l.length ∧ StrsAt W b4 l ∧ (b4 = none → cap1 = 0) ∧ (l = [] ∨ ∃ spare, d4 = .slice (strs l) spare) := by
    obtain ⟨fuel, hf⟩ := h4
    rcases open_strings Tryz.underlying41 Tryz.underlying9 (by kernel_rfl) hf with ⟨hcs, hx⟩ | ⟨a, len', cap', ss, hcs, _, hl, hm, hz, hx, hcell, hws⟩
    · simp [Value.cells] at hcs
      obtain ⟨rfl, rfl, rfl⟩ := hcs
      exact ⟨[], rfl, fun j hj => absurd hj (Nat.not_lt_zero _), fun _ => rfl, .inl rfl⟩
    · simp [Value.cells] at hcs
      obtain ⟨rfl, rfl, rfl⟩ := hcs
      have hsl : ss.length = cap1 := by simpa using hz
      refine ⟨ss.take len1, by rw [List.length_take]; omega, fun j hj => ?_, (fun e => by cases e), .inr ⟨_, (Prod.mk.inj hx).1⟩⟩
      rw [List.length_take] at hj
      have hc := hcell j (by omega)
      obtain ⟨g, off, spot⟩ := a
      have hspot : spot = none := by
        have h0 := hcell 0 (by omega)
        simpa [Addr.add] using World.cell?_spot h0
      subst hspot
      rw [addr_add] at hc
      refine ⟨g, off, rfl, cell_lt hc, ?_⟩
      rw [hc, List.getElem_take, List.getD_eq_getElem?_getD, List.getElem?_eq_getElem (by omega)]
      rfl
  clear hA0
  have hb : Rows.uptoBulkAll [DataW.lit (H := H) (.int .i64 a0), .lit (.int .i64 a1), .lit (.int .i64 a2), .lit (.string s3.data.toList), d4, .lit (.int .i64 a5), .lit (.string s6.data.toList)] ≤ 1048576 := by
    have : Rows.uptoBulkAll ([DataW.lit (H := H) (.int .i64 a0), .lit (.int .i64 a1), .lit (.int .i64 a2), .lit (.string s3.data.toList), d4, .lit (.int .i64 a5), .lit (.string s6.data.toList)] ++ []) ≤ 1048576 := of_decide_eq_true hk
    rwa [List.append_nil] at this
  simp only [Rows.uptoBulkAll, Rows.uptoBulk] at hb
  have e3 : s3.data.toList.length = s3.size := by rw [Array.length_toList]; rfl
  have e6 : s6.data.toList.length = s6.size := by rw [Array.length_toList]; rfl
  have hl2 : l.length + s3.size ≤ 1048576 ∧ ∀ x ∈ l, x.size ≤ 1048576 := by
    rcases hd with rfl | ⟨spare, rfl⟩
    · exact ⟨by simp only [List.length_nil]; omega, fun x hx => by cases hx⟩
    · simp only [Rows.uptoBulk] at hb
      obtain ⟨b1, b2⟩ := bulk_strs (H := H) l
      exact ⟨by omega, fun x hx => by have := b2 x hx; omega⟩
  refine (stars_any a0 a1 a2 a5 s3 s6 b4 cap1 l W (by omega) (by omega) hst hnone hl2.1 hl2.2).mono fun e W' ⟨he, bel⟩ => ?_
  subst he
  exact ⟨_, rfl, _, _, _, [], _, [], hW', trodAll_mk1 (shut_bool Tryz.underlying4 _), (trodAll_cons_mk (shut_int Tryz.underlying3 w0) (trodAll_cons_mk (shut_int Tryz.underlying3 w1) (trodAll_cons_mk (shut_int Tryz.underlying3 w2) (trodAll_cons_mk (shut_string Tryz.underlying9 m3) (trodAll_cons_mk (Below.trod laidOut (by kernel_rfl) (of_decide_eq_true (by kernel_rfl)) k1 bel lt1) (trodAll_cons_mk (shut_int Tryz.underlying3 w5) (trodAll_cons_mk (shut_string Tryz.underlying9 m6) trodAll_mk0))))))), rfl, bel.frame _, fun h => by cases h⟩

set_option maxRecDepth 100000 in
theorem lifted (os : Os) (started : os.Started) (H : Type) (enc : TypeId × Value → H) (F : Stop.Interp) :
    ReturnsInHanded {} Tryz.checked os 6 .any ((Rows.OpenSpec.upto Rows.sealStarsSpec).pre6 enc Tryz.prog Tryz.f6 Rows.sealStarsUptoRow.domain false) (((Rows.OpenSpec.upto Rows.sealStarsSpec).at F).post enc Tryz.prog Tryz.f6 false true false false) := by
  refine returnsInHanded_of_cond (C := Tryz.checked) (s := Rows.OpenSpec.upto Rows.sealStarsSpec) (k := Rows.uptoSmall) rfl own started (by kernel_rfl) Tryz.func6
    (OpenSpec.witness (enc := enc) (C := Tryz.checked) (s := Rows.OpenSpec.upto Rows.sealStarsSpec) (k := Rows.uptoSmall) rfl false ⟨#[], #[.int .i64 0, .int .i64 0, .int .i64 0, .string .empty, .slice none 0 0, .int .i64 0, .string .empty], []⟩ 8 (by kernel_rfl) (by kernel_rfl) (by kernel_rfl)
      (x := ([.lit (.int .i64 0), .lit (.int .i64 0), .lit (.int .i64 0), .lit (.string []), .nil, .lit (.int .i64 0), .lit (.string [])], [], [])) (by kernel_rfl) rfl (by kernel_rfl)) ?_
  intro W base args ds gs before hval hW _ hk _
  exact contract H enc W base args ds gs before hval hW hk

theorem proved : Rows.SealStarsUptoSaid :=
  OpenClaim.holds_of_cond 6 Tryz.f6 rfl rfl rfl rfl rfl rfl rfl ⟨rfl, rfl, rfl, rfl, rfl⟩ rfl rfl rfl rfl rfl (by kernel_rfl) Tryz.func6 (by kernel_rfl)
    (of_decide_eq_true (by kernel_rfl)) (by unfold Func.isWrapper; first | (rw [if_pos (by decide +kernel)]; kernel_rfl) | (rw [if_neg (by decide +kernel)]; exact ⟨rfl, rfl⟩))
    (fun os started H enc _ F => lifted os started H enc F)
end Go.Proofs.YtklpgjgnghdcjaaGreat.sealStarsP
namespace Go.Proofs.YtklpgjgnghdcjaaGreat
theorem sealStars_upto : Rows.SealStarsUptoSaid := sealStarsP.proved
end Go.Proofs.YtklpgjgnghdcjaaGreat
