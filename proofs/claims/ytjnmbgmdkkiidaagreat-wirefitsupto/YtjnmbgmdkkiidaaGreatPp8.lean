import Derived.Test.YtjnmbgmdkkiidaaGreatPp6
import Derived.Test.YtjnmbgmdkkiidaaGreatPp7
/-
  The reference's PackMessage: its records. (The verifier's own text.)
-/
namespace Go.Proofs.YtjnmbgmdkkiidaaGreat
set_option linter.unusedVariables false
open Go.RowKit Go.Shelf Go.Maps Go.Proofs.YtjnmbgmdkkiidaaGreat.Nm

/-- a list of records in blocks that no paper has -/
def RsS (w : World) (S : Nat → Prop) (p : Option Addr) (l : List Rn) : Prop := ∀ k, (hk : k < l.length) → ∃ g off, p = some ⟨g, off, none⟩ ∧ g < w.heap.size ∧ ¬ S g ∧ w.cell? ⟨g, off + k * 5, none⟩ = some (.string l[k].o) ∧ w.cell? ⟨g, off + k * 5 + 1, none⟩ = some (.int .i64 l[k].t) ∧ w.cell? ⟨g, off + k * 5 + 2, none⟩ = some (.int .i64 l[k].c) ∧ w.cell? ⟨g, off + k * 5 + 3, none⟩ = some (.int .i64 l[k].l) ∧ w.cell? ⟨g, off + k * 5 + 4, none⟩ = some (.string l[k].d)
theorem RsS.keep {w w' : World} {S S' : Nat → Prop} {p : Option Addr} {L : List Rn} (h : RsS w S p L) (f : Fq w w' S S') : RsS w' S' p L := fun k hk => by
  obtain ⟨g, off, h1, h2, h3, e0, e1, e2, e3, e4⟩ := h k hk
  have hb := f.block g h2 h3
  refine ⟨g, off, h1, Nat.lt_of_lt_of_le h2 f.size, fun e => ?_, (cell_block hb _).trans e0, (cell_block hb _).trans e1, (cell_block hb _).trans e2, (cell_block hb _).trans e3, (cell_block hb _).trans e4⟩
  rcases f.own g e with e | e
  · exact h3 e
  · omega
theorem runR_count (most : Int) : ∀ (L : List Rn) (s : PS) (c c' : Nat), (runR most L s c).1 = (runR most L s c').1
  | [], s, c, c' => rfl
  | r :: l, s, c, c' => by
    unfold runR
    by_cases h : most < (s.out.size : Int)
    · rw [if_pos h, if_pos h]
    · rw [if_neg h, if_neg h]
      exact runR_count most l (recR r s) (c + 1) (c' + 1)
/-- a record that is right, in numbers -/
theorem rOK_nat {r : Rn} (h : rOK r = true) : ∃ (o d : ByteArray) (t c l : Nat), r = ⟨o, (t : Int), (c : Int), (l : Int), d⟩ ∧ isN o = true ∧ t < 65536 ∧ c < 65536 ∧ l < 4294967296 ∧ dataOK (t : Int) (c : Int) d = true := by
  obtain ⟨o, t, c, l, d⟩ := r
  unfold rOK recOK headOK at h
  simp only [Bool.and_eq_true] at h
  obtain ⟨⟨⟨⟨h1, h2⟩, h3⟩, h4⟩, h5⟩ := h
  have e2 : 0 ≤ t ∧ t < 65536 := by simpa [fitsN] using h2
  have e3 : 0 ≤ c ∧ c < 65536 := by simpa [fitsN] using h3
  have e4 : 0 ≤ l ∧ l < 4294967296 := by simpa [fitsN] using h4
  obtain ⟨n2, rfl⟩ := Int.eq_ofNat_of_zero_le e2.1
  obtain ⟨n3, rfl⟩ := Int.eq_ofNat_of_zero_le e3.1
  obtain ⟨n4, rfl⟩ := Int.eq_ofNat_of_zero_le e4.1
  exact ⟨o, d, n2, n3, n4, rfl, h1, by omega, by omega, by omega, h5⟩

set_option maxRecDepth 100000 in
set_option maxHeartbeats 4000000 in
theorem pm_recs (P : Nat) (u1 u2 u3 : Value) (s : PS) (L : List Rn) (pL : Option Addr) (cL : Nat) (w w0 : World) (HP : Hid (Pp w0 P w.heap.size u1 u2 u3 s)) (HB : Hid (Below w.heap.size w w0)) (HR : Hid (RsS w0 (own3 P u1 u2 u3) pL L)) (HOK : Hid (POk s)) (HRO : Hid (∀ r ∈ L, rOK r = true)) (hs : s.out.size ≤ 20000000) (hL : L.length ≤ 1048576) (x0 x1 x2 x3 x5 x6 x7 x9 x10 x11 x12 x13 x14 x15 x16 x17 x18 x19 x20 x21 x22 x23 x24 x25 x26 x27 x28 x29 x30 x31 x32 x33 x34 x35 x36 x37 x38 x39 x40 x41 x42 x43 x44 x45 x46 x47 x48 x49 x50 x51 x52 x53 x54 x55 x56 x57 x58 x59 x60 x61 x62 x63 x64 x65 x66 x67 x68 x69 x70 x71 x72 x73 x74 x75 x76 x77 x78 x79 x80 x81 x82 x83 x84 x85 x86 x87 x88 x89 x90 x91 x92 x93 x94 x95 x96 x97 x98 x99 x100 x101 x102 x103 x104 x105 x106 x107 x108 x109 x110 x111 x112 x113 x114 x115 x116 x117 x118 x119 x120 x121 x122 x123 x124 x125 x126 x127 x128 x129 x130 x131 x132 x133 x134 x135 x136 : Value) :
    Code.wp Tryz.prog (((Tryz.f7.body.map (tailsN 15)).getD []).getD 0 .skip) (bodyPost Tryz.prog Tryz.f7 (packE (runR 65535 L s 0).1 w)) ⟨List.toArray (x0 :: x1 :: x2 :: x3 :: (.pointer (some ⟨P, 0, none⟩) : Value) :: x5 :: x6 :: x7 :: (.slice pL L.length cL : Value) :: x9 :: x10 :: x11 :: x12 :: x13 :: x14 :: x15 :: x16 :: x17 :: x18 :: x19 :: x20 :: x21 :: x22 :: x23 :: x24 :: x25 :: x26 :: x27 :: x28 :: x29 :: x30 :: x31 :: x32 :: x33 :: x34 :: x35 :: x36 :: x37 :: x38 :: x39 :: x40 :: x41 :: x42 :: x43 :: x44 :: x45 :: x46 :: x47 :: x48 :: x49 :: x50 :: x51 :: x52 :: x53 :: x54 :: x55 :: x56 :: x57 :: x58 :: x59 :: x60 :: x61 :: x62 :: x63 :: x64 :: x65 :: x66 :: x67 :: x68 :: x69 :: x70 :: x71 :: x72 :: x73 :: x74 :: x75 :: x76 :: x77 :: x78 :: x79 :: x80 :: x81 :: x82 :: x83 :: x84 :: x85 :: x86 :: x87 :: x88 :: x89 :: x90 :: x91 :: x92 :: x93 :: x94 :: x95 :: x96 :: x97 :: x98 :: x99 :: x100 :: x101 :: x102 :: x103 :: x104 :: x105 :: x106 :: x107 :: x108 :: x109 :: x110 :: x111 :: x112 :: x113 :: x114 :: x115 :: x116 :: x117 :: x118 :: x119 :: x120 :: x121 :: x122 :: x123 :: x124 :: x125 :: x126 :: x127 :: x128 :: x129 :: x130 :: x131 :: x132 :: x133 :: x134 :: x135 :: x136 :: []), []⟩ w0 := by
  conv => arg 2; whnf
  go_wp2_with fail
  go_loopw [113] (fun iv wr => ∃ (k : Nat) (sk : PS) (a1 a2 a3 : Value), iv = .int .i64 (k : Int) ∧ k ≤ L.length ∧ Hid ((runR 65535 L s 0).1 = (runR 65535 (L.drop k) sk 0).1) ∧ Hid (Pp wr P w.heap.size a1 a2 a3 sk) ∧ Hid (Below w.heap.size w wr) ∧ Hid (RsS wr (own3 P a1 a2 a3) pL L) ∧ Hid (POk sk) ∧ sk.out.size ≤ 20000000) (fun iv _ => L.length - (intOf iv).toNat)
  case atStart => exact ⟨0, s, u1, u2, u3, rfl, Nat.zero_le _, by rw [List.drop_zero]; exact rfl, HP, HB, HR, HOK, hs⟩
  case round =>
    obtain ⟨k, sk, a1, a2, a3, rfl, hk, HE, H, HBr, HRr, HO, hsk⟩ := hrel
    obtain ⟨p0, c0, rfl, _⟩ := own_shape H.out.1.r1.own
    have q0 := H.out.1.bx.cell (j := 0) rfl
    by_cases hlt : k < L.length
    · obtain ⟨g, off, rfl, hg, hng, e0, e1, e2, e3, e4⟩ := HRr.out k hlt
      have hdrop : L.drop k = L[k] :: L.drop (k + 1) := List.drop_eq_getElem_cons hlt
      have hr := HRO.out _ (List.getElem_mem hlt)
      obtain ⟨y, hy⟩ : ∃ y, L[k] = y := ⟨_, rfl⟩
      rw [hy] at e0 e1 e2 e3 e4 hr hdrop
      obtain ⟨ow, d, t, c, l, rfl, ho, htt, hcc, hll, hd⟩ := rOK_nat hr
      simp only at e0 e1 e2 e3 e4
      rw [hdrop] at HE
      clear hdrop hy hr
      have qa : ∀ b, (wr.alloc b).cell? ⟨P, 0, none⟩ = some (.slice p0 sk.out.size c0) := fun b => (H.out.1.alloc b).bx.cell rfl
      by_cases hbig : 65535 < sk.out.size
      · have HV : Hid ((runR 65535 L s 0).1 = sk) := by
          unfold Hid
          rw [HE.out, runR, if_pos (by omega)]
        go_wp2_with fail
        go_ret2
        refine ⟨?_, HBr.out.alloc HBr.out.size _⟩
        rw [HV.out, if_pos hbig]
        rfl
      · have HV : Hid ((runR 65535 L s 0).1 = (runR 65535 (L.drop (k + 1)) (recP ow t c l d sk) 0).1) := by
          unfold Hid
          rw [HE.out, runR, if_neg (by omega)]
          exact runR_count _ _ _ _ _
        have HS := hide' (recP_pok ho t c l (datOK_of hd) HO.out)
        have hz : (recP ow t c l d sk).out.size ≤ 20000000 := by
          have h1 := (dataP_ok (datOK_of hd) (recH_pok ho t c l HO.out)).2.1
          have h2 := (datOK_of hd).1
          have h3 := (name_size ho sk).1
          have h4 := ((isN_iff ow).1 ho).1
          rw [recP_size]
          rw [recH_size] at h1
          omega
        go_wp2_with (go_at_call 23; refine (rrecord_any P w.heap.size _ a2 a3 sk ow t c l d _ ⟨H.out.1.alloc _, H.out.2⟩ ho htt hcc hll hd HO.out (by omega)).mono ?_; rintro e w5 ⟨rfl, t1, t2, t3, r1, r2⟩; have R1 := hide' r1; have R2 := hide' r2; clear r1 r2)
        have HF := hide' ((Fq.none (World.grownBy_alloc wr (.cells #[.string ow, .int .i64 (t : Int), .int .i64 (c : Int), .int .i64 (l : Int), .string d] 59) Option.none) (own3 P (.slice p0 sk.out.size c0) a2 a3)).trans R2.out)
        go_roundw
        case rel => exact ⟨k + 1, _, t1, t2, t3, by go_num, by omega, HV, R1, HBr.out.trans (HF.out.below HBr.out.size H.out.1.low), HRr.out.keep HF.out, HS, hz⟩
        case measure => simp [intOf]; omega
    · obtain rfl : k = L.length := by omega
      have HV : Hid ((runR 65535 L s 0).1 = sk) := by
        unfold Hid
        rw [HE.out, List.drop_length]
        rfl
      by_cases hbig : 65535 < sk.out.size
      · go_wp2_with fail
        go_ret2
        refine ⟨?_, HBr.out⟩
        rw [HV.out, if_pos hbig]
        rfl
      · go_wp2_with fail
        go_ret2
        refine ⟨?_, HBr.out⟩
        rw [HV.out, if_neg hbig]
        exact ⟨p0, c0, rfl, H.out.1.r1.own⟩
end Go.Proofs.YtjnmbgmdkkiidaaGreat
