import Derived.Test.YtdaimcccdleodaaLr1
/-
  Chapter 15: the reference's Allow: what stands behind the look for who asks. (The verifier's own text.)
-/
namespace Go.Proofs.Ytdaimcccdleodaa
set_option linter.unusedVariables false
set_option linter.unusedSimpArgs false
open Go.RowKit Go.Shelf Go.Maps

def isRegN (n : Nat) : Code → Bool
  | .region k _ _ => k == n
  | _ => false
/-- what stands behind a region -/
def tailsN (n : Nat) : Code → List Code
  | .seq a b => bif isRegN n a then [b] else tailsN n a ++ tailsN n b
  | .block _ c => tailsN n c
  | .scope c => tailsN n c
  | .cond _ a b => tailsN n a ++ tailsN n b
  | .loop c => tailsN n c
  | _ => []
theorem rowV_set1 {x : ByteArray} {l t l' : Int} : ∀ {T : List Tr} {k : Nat}, T[k]? = some (x, l, t) → (rowV trV T).set (k * 3 + 1) (.int .i64 l') = rowV trV (T.set k (x, l', t))
  | y :: T, 0, h => by
    simp only [List.getElem?_cons_zero, Option.some.injEq] at h
    subst h
    simp [rowV, trV]
  | y :: T, k + 1, h => by
    have ih := rowV_set1 (l' := l') (T := T) (k := k) (by simpa using h)
    simp only [rowV, List.set_cons_succ]
    rw [← ih, List.set_append_right _ _ (by rw [trV_len]; omega)]
    congr 2
    rw [trV_len]; omega
theorem rowV_set2 {x : ByteArray} {l t t' : Int} : ∀ {T : List Tr} {k : Nat}, T[k]? = some (x, l, t) → (rowV trV T).set (k * 3 + 2) (.int .i64 t') = rowV trV (T.set k (x, l, t'))
  | y :: T, 0, h => by
    simp only [List.getElem?_cons_zero, Option.some.injEq] at h
    subst h
    simp [rowV, trV]
  | y :: T, k + 1, h => by
    have ih := rowV_set2 (t' := t') (T := T) (k := k) (by simpa using h)
    simp only [rowV, List.set_cons_succ]
    rw [← ih, List.set_append_right _ _ (by rw [trV_len]; omega)]
    congr 2
    rw [trV_len]; omega
/-- the reference's limiter while one of its own is written -/
structure RSt (w4 w' : World) (R base g o cap f : Nat) (rate burst : Int) (T : List Tr) (k : Nat) (x : ByteArray) (l t : Int) : Prop where
  bx : Bx w' R #[.int .i64 rate, .int .i64 burst, .slice (some ⟨g, o * 3, none⟩) T.length cap] 38
  q : Orow w' base 69 3 (.slice (some ⟨g, o * 3, none⟩) T.length cap) T.length (rowV trV (T.set k (x, l, t)))
  gr : w4.grownBy w' (some g)
  hk : k < T.length
  hf : f = o * 3 + k * 3
section
variable {w4 w' w'' : World} {R base g o cap f : Nat} {rate burst : Int} {T : List Tr} {k : Nat} {x : ByteArray} {l t : Int}
theorem RSt.cells (h : RSt w4 w' R base g o cap f rate burst T k x l t) : w'.cell? ⟨g, f + 1, none⟩ = some (.int .i64 l) ∧ w'.cell? ⟨g, f + 2, none⟩ = some (.int .i64 t) ∧ w'.frozen? ⟨g, f + 1, none⟩ = false ∧ w'.frozen? ⟨g, f + 2, none⟩ = false ∧ w'.cell? ⟨R, 0, none⟩ = some (.int .i64 rate) ∧ w'.cell? ⟨R, 1, none⟩ = some (.int .i64 burst) := by
  have hk := h.hk
  have hc := h.q.cells
  have hget : ∀ r, r < 3 → (rowV trV (T.set k (x, l, t)))[k * 3 + r]? = (trV (x, l, t))[r]? := fun r hr => by
    rw [rowV_get trV_len (T.set k (x, l, t)) k r (by rw [List.length_set]; exact hk) hr, List.getElem_set_self]
  have c1 := hc (k * 3 + 1) (.int .i64 l) (by rw [hget 1 (by omega)]; rfl)
  have c2 := hc (k * 3 + 2) (.int .i64 t) (by rw [hget 2 (by omega)]; rfl)
  rw [Addr.add_lit] at c1 c2
  have hf := h.hf
  have hfz : ∀ j, w'.frozen? ⟨g, j, none⟩ = false := fun j => by
    rcases h.q.2 with ⟨h, _⟩ | ⟨g', o', cap', cur, hv, hb, hgg, _⟩
    · cases h
    · injection hv with hv _ _
      injection hv with hv
      injection hv with hg _ _
      subst hg
      simp [World.frozen?, hgg]
  refine ⟨?_, ?_, hfz _, hfz _, h.bx.cell rfl, h.bx.cell rfl⟩
  · rw [hf, show o * 3 + k * 3 + 1 = o * 3 + (k * 3 + 1) by omega]; exact c1
  · rw [hf, show o * 3 + k * 3 + 2 = o * 3 + (k * 3 + 2) by omega]; exact c2
theorem RSt.ne (h : RSt w4 w' R base g o cap f rate burst T k x l t) : R ≠ g := bx_row h.bx h.q rfl (by decide)
theorem RSt.left (h : RSt w4 w' R base g o cap f rate burst T k x l t) (l' : Int) : RSt w4 (w'.setCell ⟨g, f + 1, none⟩ (.int .i64 l')) R base g o cap f rate burst T k x l' t := by
  have hk := h.hk
  have hf := h.hf
  have e : f + 1 = o * 3 + (k * 3 + 1) := by omega
  have hp := h.q.put (.int .i64 l') (j := k * 3 + 1) (by omega)
  rw [rowV_set1 (x := x) (l := l) (t := t) (by rw [List.getElem?_set_self hk]), List.set_set] at hp
  rw [e]
  exact ⟨h.bx.grown (grown_set w' g _ _) (by have := h.ne; simp; omega), hp, grown_trans h.gr (grown_set w' g _ _), hk, hf⟩
theorem RSt.last (h : RSt w4 w' R base g o cap f rate burst T k x l t) (t' : Int) : RSt w4 (w'.setCell ⟨g, f + 2, none⟩ (.int .i64 t')) R base g o cap f rate burst T k x l t' := by
  have hk := h.hk
  have hf := h.hf
  have e : f + 2 = o * 3 + (k * 3 + 2) := by omega
  have hp := h.q.put (.int .i64 t') (j := k * 3 + 2) (by omega)
  rw [rowV_set2 (x := x) (l := l) (t := t) (by rw [List.getElem?_set_self hk]), List.set_set] at hp
  rw [e]
  exact ⟨h.bx.grown (grown_set w' g _ _) (by have := h.ne; simp; omega), hp, grown_trans h.gr (grown_set w' g _ _), hk, hf⟩
theorem RSt.drewN (h : RSt w4 w' R base g o cap f rate burst T k x l t) (n : Nat) : RSt w4 (w'.drewN n) R base g o cap f rate burst T k x l t :=
  ⟨h.bx, h.q.kept (grown_drewN w' n none) (fun _ _ => by simp), grown_trans h.gr (grown_drewN w' n _), h.hk, h.hf⟩
theorem RSt.drew (h : RSt w4 w' R base g o cap f rate burst T k x l t) : RSt w4 w'.drew R base g o cap f rate burst T k x l t := h.drewN 1
end
theorem cellI_eq {w : World} {a : Addr} {z : Int} (h : w.cell? a = some (.int .i64 z)) : cellI w a = z := by unfold cellI; rw [h]
set_option maxRecDepth 100000 in
set_option maxHeartbeats 8000000 in
theorem rtail (R base g o cap f k : Nat) (rate burst now l t : Int) (T : List Tr) (x : ByteArray) (Q : Ending → World → Prop) (w4 : World) (h : RSt w4 w4 R base g o cap f rate burst T k x l t)
    (hr0 : 0 ≤ rate) (hr1 : rate ≤ 1000) (hb0 : 1 ≤ burst) (hb1 : burst ≤ 1000) (hl0 : 0 ≤ l) (hl1 : l ≤ burst) (hn : (Lit.int .i64 now).wf = true) (htlo : (-9223372036854775808 : Int) ≤ t)
    (HQ : Hid (∀ w', RSt w4 w' R base g o cap f rate burst T k x (tkL (reL rate burst l t now)) (reT t now) → Q (.returned (.bool (tkB (reL rate burst l t now)))) w'))
    (x1 x3 x4 x5 x6 x7 x8 x10 x11 x12 x13 x14 x15 x16 x17 x18 x19 x20 x21 x22 x23 x24 x25 x26 x27 x28 x29 x30 x31 x32 x33 x34 x35 x36 x37 x38 x39 x40 x41 x42 x43 x44 x45 x46 x47 x48 x49 x50 x51 x52 x53 x54 x55 x56 x57 x58 x59 x60 x61 x62 x63 x64 x65 x66 x67 x68 x69 x70 x71 x72 x73 x74 x75 x76 x77 x78 x79 x80 x81 x82 x83 x84 x85 x86 x87 x88 x89 x90 x91 x92 x93 x94 x95 x96 x97 x98 x99 x100 x101 x102 x103 x104 x105 x106 x107 x108 x109 x110 x111 x112 x113 x114 x115 x116 x117 x118 x119 x120 x121 x122 x123 x124 x125 x126 x127 x128 x129 x130 x131 x132 x133 x134 x135 x136 x137 x138 x139 x140 x141 x142 x143 x144 x145 x146 x147 x148 x149 x150 x151 x152 x153 x154 x155 x156 x157 x158 x159 x160 x161 x162 x163 x164 x165 : Value) :
    Code.wp Try.prog (((Try.f13.body.map (tailsN 14)).getD []).getD 0 .skip) (bodyPost Try.prog Try.f13 Q) ⟨List.toArray ((.pointer (some ⟨R, 0, none⟩) : Value) :: x1 :: (.int .i64 now : Value) :: x3 :: x4 :: x5 :: x6 :: x7 :: x8 :: (.pointer (some ⟨g, f, none⟩) : Value) :: x10 :: x11 :: x12 :: x13 :: x14 :: x15 :: x16 :: x17 :: x18 :: x19 :: x20 :: x21 :: x22 :: x23 :: x24 :: x25 :: x26 :: x27 :: x28 :: x29 :: x30 :: x31 :: x32 :: x33 :: x34 :: x35 :: x36 :: x37 :: x38 :: x39 :: x40 :: x41 :: x42 :: x43 :: x44 :: x45 :: x46 :: x47 :: x48 :: x49 :: x50 :: x51 :: x52 :: x53 :: x54 :: x55 :: x56 :: x57 :: x58 :: x59 :: x60 :: x61 :: x62 :: x63 :: x64 :: x65 :: x66 :: x67 :: x68 :: x69 :: x70 :: x71 :: x72 :: x73 :: x74 :: x75 :: x76 :: x77 :: x78 :: x79 :: x80 :: x81 :: x82 :: x83 :: x84 :: x85 :: x86 :: x87 :: x88 :: x89 :: x90 :: x91 :: x92 :: x93 :: x94 :: x95 :: x96 :: x97 :: x98 :: x99 :: x100 :: x101 :: x102 :: x103 :: x104 :: x105 :: x106 :: x107 :: x108 :: x109 :: x110 :: x111 :: x112 :: x113 :: x114 :: x115 :: x116 :: x117 :: x118 :: x119 :: x120 :: x121 :: x122 :: x123 :: x124 :: x125 :: x126 :: x127 :: x128 :: x129 :: x130 :: x131 :: x132 :: x133 :: x134 :: x135 :: x136 :: x137 :: x138 :: x139 :: x140 :: x141 :: x142 :: x143 :: x144 :: x145 :: x146 :: x147 :: x148 :: x149 :: x150 :: x151 :: x152 :: x153 :: x154 :: x155 :: x156 :: x157 :: x158 :: x159 :: x160 :: x161 :: x162 :: x163 :: x164 :: x165 :: []), []⟩ w4 := by
  have hnr : now ≤ 9223372036854775807 := by simp [Lit.wf, IntKind.min, IntKind.max, IntKind.bits, IntKind.signed] at hn; omega
  have HT : Hid ((-9223372036854775808 : Int) ≤ t) := htlo
  have HR := hidep (And.intro hr0 (And.intro hr1 (And.intro hb0 (And.intro hb1 (And.intro hl0 (And.intro hl1 hnr))))))
  have H := hidep h
  clear h hr0 hr1 hb0 hb1 hl0 hl1 hn hnr
  conv => arg 2; whnf
  go_wp2_with fail
  go_loopw [] (fun wr => ∃ l' t' : Int, RSt w4 wr R base g o cap f rate burst T k x l' t' ∧ Hid (t ≤ t' ∧ (t' ≤ t ∨ t' ≤ now) ∧ l' = l + rate * (t' - t))) (fun wr => (now - cellI wr ⟨g, f + 2, none⟩).toNat)
  case atStart => exact ⟨l, t, H.out, Int.le_refl _, .inl (Int.le_refl _), by simp⟩
  case round =>
    obtain ⟨l', t', hS, HM⟩ := hrel
    have HS := hidep hS
    obtain ⟨c1, c2, f1, f2, r0, r1⟩ := hS.cells
    have hcI := cellI_eq c2
    clear hS
    by_cases hE1 : t' < now
    · by_cases hEE : l' < burst
      · by_cases hEF : 0 < rate
        · have hB : decide (t' < now) = true := by simp; omega
          have hE2 : decide (l' < burst) = true := by simp; omega
          have hE3 : decide (0 < rate) = true := by simp; omega
          have hw1 : IntKind.i64.wrap (t' + 1) = t' + 1 := by
            have h1 := HR.out
            have h2 := HM.out
            have h3 := HT.out
            rw [IntKind.wrap_i64]; omega
          have hw2 : IntKind.i64.wrap (l' + rate) = l' + rate := by
            have h1 := HR.out
            have h2 := Int.mul_nonneg h1.1 (show 0 ≤ t' - t by have := HM.out; omega)
            have h3 := HM.out
            rw [IntKind.wrap_i64]; omega
          have HMN : Hid (t ≤ t' + 1 ∧ (t' + 1 ≤ t ∨ t' + 1 ≤ now) ∧ l' + rate = l + rate * (t' + 1 - t)) := by
            have h2 := HM.out
            refine ⟨by omega, .inr (by omega), ?_⟩
            rw [show t' + 1 - t = (t' - t) + 1 by omega, Int.mul_add, Int.mul_one]
            omega
          have HMS : Hid ((now - (t' + 1)).toNat < (now - t').toNat) := by unfold Hid; omega
          clear hE1 hEE hEF
          go_wp2_with fail
          go_region
          all_goals
            go_wp2_with fail
            go_region
            all_goals
              go_wp2_with fail
              have hst := ((HS.out.last (t' + 1)).left (l' + rate)).drewN 2
              refine ⟨⟨l' + rate, t' + 1, hst, HMN.out⟩, ?_⟩
              have hc := cellI_eq hst.cells.2.1
              have hlt : ∀ z, z = t' + 1 → (now - z).toNat < (now - t').toNat := fun z hz => by rw [hz]; exact HMS.out
              rw [hcI]
              exact hlt _ hc
        · by_cases hz : l' = 0
          · have hre := re_end HR.out.1 HR.out.2.2.1 HR.out.2.2.2.2.1 HR.out.2.2.2.2.2.1 HM.out.1 HM.out.2.1 HM.out.2.2 (now := now) (by omega)
            rw [if_neg (by omega), if_pos (by omega)] at hre
            have HQ2 := HQ.out
            rw [← hre.1, ← hre.2] at HQ2
            rw [(tk_zero hz).1, (tk_zero hz).2] at HQ2
            have HQ3 := hidep HQ2
            have hl9 : 0 ≤ l' := by have h1 := Int.mul_nonneg HR.out.1 (show 0 ≤ t' - t by have := HM.out; omega); have h2 := HM.out; have h3 := HR.out; omega
            have hwr : IntKind.i64.wrap (l' - 1) = l' - 1 := by have := HR.out; rw [IntKind.wrap_i64]; omega
            have hzb : (l' == 0) = true := by simp; omega
            have hA : decide (burst < l') = false := by simp; omega
            have hB : decide (t' < now) = true := by simp; omega
            have hE2 : decide (l' < burst) = true := by simp; omega
            have hE3 : decide (0 < rate) = false := by simp; omega
            have HZZ := hidep (show RSt w4 wr R base g o cap f rate burst T k x 0 t' from hz ▸ HS.out)
            clear hre HQ2 hl9 hE1 hEE hEF hz
            go_wp2_with fail
            go_region
            all_goals
              go_wp2_with fail
              go_region
              all_goals
                go_wp2_with fail
                try go_ret
                exact HQ3.out _ ((HZZ.out.last now).drewN 2)
          · have hre := re_end HR.out.1 HR.out.2.2.1 HR.out.2.2.2.2.1 HR.out.2.2.2.2.2.1 HM.out.1 HM.out.2.1 HM.out.2.2 (now := now) (by omega)
            rw [if_neg (by omega), if_pos (by omega)] at hre
            have HQ2 := HQ.out
            rw [← hre.1, ← hre.2] at HQ2
            rw [(tk_one hz).1, (tk_one hz).2] at HQ2
            have HQ3 := hidep HQ2
            have hl9 : 0 ≤ l' := by have h1 := Int.mul_nonneg HR.out.1 (show 0 ≤ t' - t by have := HM.out; omega); have h2 := HM.out; have h3 := HR.out; omega
            have hwr : IntKind.i64.wrap (l' - 1) = l' - 1 := by have := HR.out; rw [IntKind.wrap_i64]; omega
            have hzb : (l' == 0) = false := by simp; omega
            have hA : decide (burst < l') = false := by simp; omega
            have hB : decide (t' < now) = true := by simp; omega
            have hE2 : decide (l' < burst) = true := by simp; omega
            have hE3 : decide (0 < rate) = false := by simp; omega
            clear hre HQ2 hl9 hE1 hEE hEF hz
            go_wp2_with fail
            go_region
            all_goals
              go_wp2_with fail
              go_region
              all_goals
                go_wp2_with fail
                try go_ret
                exact HQ3.out _ (((HS.out.last now).left (l' - 1)).drewN 2)
      · by_cases hAA : burst < l'
        · have hz : ¬ burst = 0 := by have := HR.out; omega
          have hre := re_end HR.out.1 HR.out.2.2.1 HR.out.2.2.2.2.1 HR.out.2.2.2.2.2.1 HM.out.1 HM.out.2.1 HM.out.2.2 (now := now) (by omega)
          rw [if_pos (by omega), if_pos (by omega)] at hre
          have HQ2 := HQ.out
          rw [← hre.1, ← hre.2] at HQ2
          rw [(tk_one hz).1, (tk_one hz).2] at HQ2
          have HQ3 := hidep HQ2
          have hl9 : 0 ≤ l' := by have h1 := Int.mul_nonneg HR.out.1 (show 0 ≤ t' - t by have := HM.out; omega); have h2 := HM.out; have h3 := HR.out; omega
          have hwr : IntKind.i64.wrap (burst - 1) = burst - 1 := by have := HR.out; rw [IntKind.wrap_i64]; omega
          have hzb : (burst == 0) = false := by simp; omega
          have hA : decide (burst < l') = true := by simp; omega
          have hB : decide (t' < now) = true := by simp; omega
          have hE2 : decide (l' < burst) = false := by simp; omega
          clear hre HQ2 hl9 hE1 hEE hz hAA
          go_wp2_with fail
          go_region
          all_goals
            go_wp2_with fail
            go_region
            all_goals
              go_wp2_with fail
              try go_ret
              exact HQ3.out _ ((((HS.out.left burst).last now).left (burst - 1)).drewN 2)
        · have hz : ¬ l' = 0 := by have := HR.out; omega
          have hre := re_end HR.out.1 HR.out.2.2.1 HR.out.2.2.2.2.1 HR.out.2.2.2.2.2.1 HM.out.1 HM.out.2.1 HM.out.2.2 (now := now) (by omega)
          rw [if_neg (by omega), if_pos (by omega)] at hre
          have HQ2 := HQ.out
          rw [← hre.1, ← hre.2] at HQ2
          rw [(tk_one hz).1, (tk_one hz).2] at HQ2
          have HQ3 := hidep HQ2
          have hl9 : 0 ≤ l' := by have h1 := Int.mul_nonneg HR.out.1 (show 0 ≤ t' - t by have := HM.out; omega); have h2 := HM.out; have h3 := HR.out; omega
          have hwr : IntKind.i64.wrap (l' - 1) = l' - 1 := by have := HR.out; rw [IntKind.wrap_i64]; omega
          have hzb : (l' == 0) = false := by simp; omega
          have hA : decide (burst < l') = false := by simp; omega
          have hB : decide (t' < now) = true := by simp; omega
          have hE2 : decide (l' < burst) = false := by simp; omega
          clear hre HQ2 hl9 hE1 hEE hz hAA
          go_wp2_with fail
          go_region
          all_goals
            go_wp2_with fail
            go_region
            all_goals
              go_wp2_with fail
              try go_ret
              exact HQ3.out _ (((HS.out.last now).left (l' - 1)).drewN 2)
    · by_cases hAA : burst < l'
      · have hz : ¬ burst = 0 := by have := HR.out; omega
        have hre := re_end HR.out.1 HR.out.2.2.1 HR.out.2.2.2.2.1 HR.out.2.2.2.2.2.1 HM.out.1 HM.out.2.1 HM.out.2.2 (now := now) (by omega)
        rw [if_pos (by omega), if_neg (by omega)] at hre
        have HQ2 := HQ.out
        rw [← hre.1, ← hre.2] at HQ2
        rw [(tk_one hz).1, (tk_one hz).2] at HQ2
        have HQ3 := hidep HQ2
        have hl9 : 0 ≤ l' := by have h1 := Int.mul_nonneg HR.out.1 (show 0 ≤ t' - t by have := HM.out; omega); have h2 := HM.out; have h3 := HR.out; omega
        have hwr : IntKind.i64.wrap (burst - 1) = burst - 1 := by have := HR.out; rw [IntKind.wrap_i64]; omega
        have hzb : (burst == 0) = false := by simp; omega
        have hA : decide (burst < l') = true := by simp; omega
        have hB : decide (t' < now) = false := by simp; omega
        clear hre HQ2 hl9 hE1 hz hAA
        go_wp2_with fail
        go_region
        all_goals
          go_wp2_with fail
          go_region
          all_goals
            go_wp2_with fail
            try go_ret
            exact HQ3.out _ (((HS.out.left burst).left (burst - 1)).drewN 2)
      · by_cases hz : l' = 0
        · have hre := re_end HR.out.1 HR.out.2.2.1 HR.out.2.2.2.2.1 HR.out.2.2.2.2.2.1 HM.out.1 HM.out.2.1 HM.out.2.2 (now := now) (by omega)
          rw [if_neg (by omega), if_neg (by omega)] at hre
          have HQ2 := HQ.out
          rw [← hre.1, ← hre.2] at HQ2
          rw [(tk_zero hz).1, (tk_zero hz).2] at HQ2
          have HQ3 := hidep HQ2
          have hl9 : 0 ≤ l' := by have h1 := Int.mul_nonneg HR.out.1 (show 0 ≤ t' - t by have := HM.out; omega); have h2 := HM.out; have h3 := HR.out; omega
          have hwr : IntKind.i64.wrap (l' - 1) = l' - 1 := by have := HR.out; rw [IntKind.wrap_i64]; omega
          have hzb : (l' == 0) = true := by simp; omega
          have hA : decide (burst < l') = false := by simp; omega
          have hB : decide (t' < now) = false := by simp; omega
          have HZZ := hidep (show RSt w4 wr R base g o cap f rate burst T k x 0 t' from hz ▸ HS.out)
          clear hre HQ2 hl9 hE1 hz hAA
          go_wp2_with fail
          go_region
          all_goals
            go_wp2_with fail
            go_region
            all_goals
              go_wp2_with fail
              try go_ret
              exact HQ3.out _ (HZZ.out.drewN 2)
        · have hre := re_end HR.out.1 HR.out.2.2.1 HR.out.2.2.2.2.1 HR.out.2.2.2.2.2.1 HM.out.1 HM.out.2.1 HM.out.2.2 (now := now) (by omega)
          rw [if_neg (by omega), if_neg (by omega)] at hre
          have HQ2 := HQ.out
          rw [← hre.1, ← hre.2] at HQ2
          rw [(tk_one hz).1, (tk_one hz).2] at HQ2
          have HQ3 := hidep HQ2
          have hl9 : 0 ≤ l' := by have h1 := Int.mul_nonneg HR.out.1 (show 0 ≤ t' - t by have := HM.out; omega); have h2 := HM.out; have h3 := HR.out; omega
          have hwr : IntKind.i64.wrap (l' - 1) = l' - 1 := by have := HR.out; rw [IntKind.wrap_i64]; omega
          have hzb : (l' == 0) = false := by simp; omega
          have hA : decide (burst < l') = false := by simp; omega
          have hB : decide (t' < now) = false := by simp; omega
          clear hre HQ2 hl9 hE1 hz hAA
          go_wp2_with fail
          go_region
          all_goals
            go_wp2_with fail
            go_region
            all_goals
              go_wp2_with fail
              try go_ret
              exact HQ3.out _ ((HS.out.left (l' - 1)).drewN 2)
end Go.Proofs.Ytdaimcccdleodaa
