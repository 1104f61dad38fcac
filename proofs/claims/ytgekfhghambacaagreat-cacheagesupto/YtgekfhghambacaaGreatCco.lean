import Derived.Test.YtgekfhghambacaaGreatCcn
import Derived.Test.YtgekfhghambacaaGreatOw0G
/-
  Chapter 12: the law's own functions. (The verifier's own text; mkcco.py writes it.)
-/
namespace Go.Proofs.YtgekfhghambacaaGreat
set_option linter.unusedVariables false
set_option linter.unusedSimpArgs false
open Go.RowKit Go.Shelf Go.Maps Go.Proofs.YtgekfhghambacaaGreat.Nm

set_option maxRecDepth 100000 in
set_option maxHeartbeats 2000000 in
/-- gazetteerlaw8.known, of the same twice -/
theorem knownL_any (k r : Int) (p q : Option Addr) (n c d : Nat) (A : List Rn) (w : World) (hp : RsAt w p A) (hq : RsAt w q A) (hn : n = A.length) (hl : n ≤ 4294967296) :
    Calls Tryz.prog 8 #[.agg #[.int .i64 k, .int .i64 r, .slice p n c], .agg #[.int .i64 k, .int .i64 r, .slice q n d]] w fun e w' => e = .returned (.bool true) ∧ Below w.heap.size w w' := by
  obtain ⟨a1, h1⟩ : ∃ a, w.alloc (.cells #[.int .i64 k, .int .i64 r, .slice p n c] 33) = a := ⟨_, rfl⟩
  obtain ⟨a2, h2⟩ : ∃ a, a1.alloc (.cells #[.int .i64 k, .int .i64 r, .slice q n d] 33) = a := ⟨_, rfl⟩
  have HB1 : Hid (Below w.heap.size w a1) := h1 ▸ (Below.refl _ w).alloc (Nat.le_refl _) _
  have HB2 : Hid (Below w.heap.size w a2) := h2 ▸ HB1.out.alloc HB1.out.size _
  have hx1 : Bx a1 w.heap.size #[.int .i64 k, .int .i64 r, .slice p n c] 33 := h1 ▸ World.alloc_heap_new w _
  have hg2 : a1.grownBy a2 none := h2 ▸ World.grownBy_alloc a1 _ none
  have hx1' := hx1.grown hg2 (by simp)
  have hx2 : Bx a2 a1.heap.size #[.int .i64 k, .int .i64 r, .slice q n d] 33 := h2 ▸ World.alloc_heap_new a1 _
  obtain ⟨x0, x1, x2, -, -, -⟩ := bx3C hx1'
  obtain ⟨y0, y1, y2, -, -, -⟩ := bx3C hx2
  have HS := hide' (sameRecords2 p q n c d A a2 (rs_bel hp HB2.out) (rs_bel hq HB2.out) hn hl)
  clear hp hq hn hl hx1 hx1' hx2 hg2
  have ek : (k == k) = true := beq_self_eq_true k
  have er : (r == r) = true := beq_self_eq_true r
  go_enter Tryz.func8, Tryz.ntmps8
  go_wp2_with (go_at_call 31; refine HS.out.mono ?_; rintro e1 w1 ⟨rfl, hw1⟩; have HB3 : Hid (Below w.heap.size w w1) := (by obtain ⟨m, rfl⟩ := hw1; exact below_drewC HB2.out m); clear hw1)
  go_ret
  exact ⟨rfl, HB3.out⟩
/-- nothing -/
def zRc : Rn := ⟨⟨#[]⟩, 0, 0, 0, ⟨#[]⟩⟩
def recV (r : Rn) : Value := .agg #[.string r.o, .int .i64 r.t, .int .i64 r.c, .int .i64 r.l, .string r.d]
set_option maxRecDepth 100000 in
set_option maxHeartbeats 2000000 in
/-- gazetteerlaw8.first -/
theorem firstL_any (p : Option Addr) (c : Nat) (A : List Rn) (w : World) (hp : RsAt w p A) :
    Calls Tryz.prog 10 #[.slice p A.length c] w fun e w' => e = .returned (recV (A.headD zRc)) ∧ Below w.heap.size w w' := by
  obtain ⟨a1, h1⟩ : ∃ a, w.alloc (.cells #[.string ⟨#[]⟩, .int .i64 0, .int .i64 0, .int .i64 0, .string ⟨#[]⟩] 36) = a := ⟨_, rfl⟩
  have HB1 : Hid (Below w.heap.size w a1) := h1 ▸ (Below.refl _ w).alloc (Nat.le_refl _) _
  have HX1 : Hid (Bx a1 w.heap.size #[.string ⟨#[]⟩, .int .i64 0, .int .i64 0, .int .i64 0, .string ⟨#[]⟩] 36) := h1 ▸ World.alloc_heap_new w _
  obtain ⟨x0, x1, x2, x3, x4⟩ := bx5C HX1.out
  have f0 := HX1.out.free 0
  have f1 := HX1.out.free 1
  have f2 := HX1.out.free 2
  have f3 := HX1.out.free 3
  have f4 := HX1.out.free 4
  have HE : Hid (∀ (o d : ByteArray) (t c l : Int), Bx (setR a1 w.heap.size 0 ⟨o, t, c, l, d⟩) w.heap.size #[.string o, .int .i64 t, .int .i64 c, .int .i64 l, .string d] 36 ∧ Below w.heap.size w (setR a1 w.heap.size 0 ⟨o, t, c, l, d⟩)) := fun o d t c l => by
    unfold setR
    refine ⟨((((HX1.out.set 0 (.string o)).set 1 (.int .i64 t)).set 2 (.int .i64 c)).set 3 (.int .i64 l)).set 4 (.string d), ?_⟩
    exact ((((HB1.out.setCell (p := ⟨w.heap.size, 0, none⟩) (Nat.le_refl _) _).setCell (p := ⟨w.heap.size, 1, none⟩) (Nat.le_refl _) _).setCell (p := ⟨w.heap.size, 2, none⟩) (Nat.le_refl _) _).setCell (p := ⟨w.heap.size, 3, none⟩) (Nat.le_refl _) _).setCell (p := ⟨w.heap.size, 4, none⟩) (Nat.le_refl _) _
  cases A with
  | nil =>
    go_enter Tryz.func10, Tryz.ntmps10
    go_wp2_with fail
    obtain ⟨hb, hbf⟩ := HE.out ⟨#[]⟩ ⟨#[]⟩ 0 0 0
    unfold setR at hb hbf
    obtain ⟨r0, r1, r2, r3, r4⟩ := bx5C hb
    refine bodyPost_ret (v := recV zRc) (by unfold recV zRc; simp only [Nat.zero_add] at *; simp [results, go_sem, r0, r1, r2, r3, r4]) rfl ⟨rfl, hbf⟩
  | cons x l =>
    obtain ⟨g, off, hpp, hg, e0, e1, e2, e3, e4⟩ := (rs_bel hp HB1.out) 0 (by simp)
    subst hpp
    simp only [Nat.zero_mul, Nat.add_zero, List.getElem_cons_zero] at e0 e1 e2 e3 e4
    obtain ⟨xo, xt, xc, xl, xd⟩ := x
    simp only at e0 e1 e2 e3 e4
    obtain ⟨N, hN⟩ : ∃ N, ((⟨xo, xt, xc, xl, xd⟩ :: l : List Rn)).length = N := ⟨_, rfl⟩
    have hN0 : 0 < N := by rw [← hN]; simp
    have hNe : (N == 0) = false := by rw [beq_eq_false_iff_ne]; omega
    have hNi : ((N : Int) == 0) = false := by rw [beq_eq_false_iff_ne]; omega
    rw [hN]
    clear hN hp
    go_enter Tryz.func10, Tryz.ntmps10
    go_wp2_with fail
    obtain ⟨hb, hbf⟩ := HE.out xo xd xt xc xl
    unfold setR at hb hbf
    obtain ⟨r0, r1, r2, r3, r4⟩ := bx5C hb
    refine bodyPost_ret (v := recV ⟨xo, xt, xc, xl, xd⟩) (by unfold recV; simp only [Nat.zero_add] at *; simp [results, go_sem, r0, r1, r2, r3, r4]) rfl ⟨rfl, hbf⟩
/-- an address -/
def adR (l : Int) : Rn := ⟨⟨#[1, 97, 2, 101, 120, 0]⟩, 1, 1, l, ⟨#[1, 2, 3, 4]⟩⟩
set_option maxRecDepth 100000 in
set_option maxHeartbeats 2000000 in
/-- gazetteerlaw8.address -/
theorem address_any (l : Int) (w : World) : Calls Tryz.prog 14 #[.int .i64 l] w fun e w' => e = .returned (.slice (some ⟨w.heap.size, 0, none⟩) 1 1) ∧ RsAt w' (some ⟨w.heap.size, 0, none⟩) [adR l] ∧ Below w.heap.size w w' := by
  obtain ⟨a1, h1⟩ : ∃ a, w.alloc (.cells #[.string ⟨#[1, 97, 2, 101, 120, 0]⟩, .int .i64 1, .int .i64 1, .int .i64 l, .string ⟨#[1, 2, 3, 4]⟩] 36) = a := ⟨_, rfl⟩
  have HB1 : Hid (Below w.heap.size w a1) := h1 ▸ (Below.refl _ w).alloc (Nat.le_refl _) _
  have HX1 : Hid (Bx a1 w.heap.size #[.string ⟨#[1, 97, 2, 101, 120, 0]⟩, .int .i64 1, .int .i64 1, .int .i64 l, .string ⟨#[1, 2, 3, 4]⟩] 36) := h1 ▸ World.alloc_heap_new w _
  have HR := hide' (rsT_one (r := adR l) HX1.out).1
  go_enter Tryz.func14, Tryz.ntmps14
  go_wp2_with fail
  go_ret
  exact ⟨rfl, HR.out, HB1.out⟩
/-! ### came -/
/-- what was put, and when -/
structure Pt where
  p : Option Addr
  c : Nat
  L : List Rn
  rank : Int
  now : Int
/-- those in memory -/
def PtsAt (w : World) (q : Option Addr) (T : List Pt) : Prop := ∀ k, (hk : k < T.length) → ∃ g off, q = some ⟨g, off, none⟩ ∧ g < w.heap.size ∧ w.cell? ⟨g, off + k * 3, none⟩ = some (.slice T[k].p T[k].L.length T[k].c) ∧ w.cell? ⟨g, off + k * 3 + 1, none⟩ = some (.int .i64 T[k].rank) ∧ w.cell? ⟨g, off + k * 3 + 2, none⟩ = some (.int .i64 T[k].now) ∧ RsAt w T[k].p T[k].L
theorem PtsAt.bel {w w' : World} {q : Option Addr} {T : List Pt} (h : PtsAt w q T) (hb : Below w.heap.size w w') : PtsAt w' q T := fun k hk => by
  obtain ⟨g, off, hp, hg, e0, e1, e2, e3⟩ := h k hk
  exact ⟨g, off, hp, Nat.lt_of_lt_of_le hg hb.size, (hb.cell (p := ⟨g, _, none⟩) hg).trans e0, (hb.cell (p := ⟨g, _, none⟩) hg).trans e1, (hb.cell (p := ⟨g, _, none⟩) hg).trans e2, rs_bel e3 hb⟩
/-- may y be x, so much later? -/
def jC (now pn : Int) (x y : Rn) : Bool := (x.o.toList == y.o.toList) && (x.t == y.t) && (x.d.toList == y.d.toList) && decide (y.l > 0) && decide (y.l ≤ x.l) && decide (y.l + now - pn ≤ x.l)
/-- the first j -/
def jsC (now pn : Int) (A B : List Rn) : Nat → Bool
  | 0 => true
  | j + 1 => jsC now pn A B j && (match A[j]?, B[j]? with | some x, some y => jC now pn x y | _, _ => false)
/-- is it this one? -/
def ptB (rank now : Int) (K : List Rn) (pt : Pt) : Bool := (pt.rank == rank) && decide (pt.L.length = K.length) && jsC now pt.now pt.L K K.length
def cameB (T : List Pt) (rank now : Int) (K : List Rn) : Bool := T.any (ptB rank now K)
theorem bx3P {w : World} {R : Nat} {T : TypeId} {a b c : Value} (h : Bx w R #[a, b, c] T) : w.cell? ⟨R, 0, none⟩ = some a ∧ w.cell? ⟨R, 1, none⟩ = some b ∧ w.cell? ⟨R, 2, none⟩ = some c := ⟨h.cell rfl, h.cell rfl, h.cell rfl⟩
set_option maxRecDepth 100000 in
set_option maxHeartbeats 8000000 in
/-- gazetteerlaw8.came -/
theorem came_any (q : Option Addr) (cq : Nat) (T : List Pt) (kind rank now : Int) (pk : Option Addr) (ck : Nat) (K : List Rn) (w : World) (hT : PtsAt w q T) (hK : RsAt w pk K) (hTl : T.length ≤ 4294967296) (hKl : K.length ≤ 4294967296) (hy : ∀ y ∈ K, -4294967296 ≤ y.l ∧ y.l ≤ 4294967296) (hn : 0 ≤ now ∧ now ≤ 4294967295) (hp : ∀ pt ∈ T, 0 ≤ pt.now ∧ pt.now ≤ 4294967295) :
    Calls Tryz.prog 12 #[.slice q T.length cq, .agg #[.int .i64 kind, .int .i64 rank, .slice pk K.length ck], .int .i64 now] w fun e w' => e = .returned (.bool (cameB T rank now K)) ∧ Below w.heap.size w w' := by
  obtain ⟨a1, h1⟩ : ∃ a, w.alloc (.cells #[.int .i64 kind, .int .i64 rank, .slice pk K.length ck] 33) = a := ⟨_, rfl⟩
  have HB1 : Hid (Below w.heap.size w a1) := h1 ▸ (Below.refl _ w).alloc (Nat.le_refl _) _
  have HX1 : Hid (Bx a1 w.heap.size #[.int .i64 kind, .int .i64 rank, .slice pk K.length ck] 33) := h1 ▸ World.alloc_heap_new w _
  have HT1 := hide' (hT.bel HB1.out)
  have HK1 := hide' (rs_bel hK HB1.out)
  have HY := hide' hy
  have HN := hide' hn
  have HP := hide' hp
  obtain ⟨N, hN⟩ : ∃ N, T.length = N := ⟨_, rfl⟩
  obtain ⟨n, hnk⟩ : ∃ n, K.length = n := ⟨_, rfl⟩
  have HNT := hide' hN
  have HNK := hide' hnk
  rw [hN] at hTl ⊢
  rw [hnk] at hKl HX1 h1 ⊢
  have HL : Hid (w.heap.size < a1.heap.size) := HX1.out.lt
  clear hT hK hy hn hp hN hnk
  go_enter Tryz.func12, Tryz.ntmps12
  go_wp2_with fail
  go_loopw [15] (fun v wo => ∃ i : Nat, v = .int .i64 (i : Int) ∧ i ≤ N ∧ Hid (Below a1.heap.size a1 wo) ∧ Hid ((T.take i).any (ptB rank now K) = false)) (fun v _ => N - (intOf v).toNat)
  case atStart => exact ⟨0, rfl, Nat.zero_le _, Below.refl _ _, (by unfold Hid; rw [List.take_zero]; rfl)⟩
  case round =>
    obtain ⟨i, rfl, hi, HBr, HAny⟩ := hrel
    obtain ⟨wo, rfl⟩ : ∃ wo, wo = wr := ⟨_, rfl⟩
    by_cases hlt : i < N
    · have hiT : i < T.length := by rw [HNT.out]; exact hlt
      obtain ⟨g, off, rfl, hg, e0, e1, e2, e3⟩ := (HT1.out.bel HBr.out) i hiT
      obtain ⟨pt, hpt⟩ : ∃ pt, T[i] = pt := ⟨_, rfl⟩
      have HTk : Hid (T.take (i + 1) = T.take i ++ [pt]) := by unfold Hid; rw [List.take_succ_eq_append_getElem hiT, hpt]
      have HTm : Hid (pt ∈ T) := hpt ▸ List.getElem_mem hiT
      rw [hpt] at e0 e1 e2 e3
      clear hpt hiT
      obtain ⟨pp, pc, PL, prk, pnow⟩ := pt
      simp only at e0 e1 e2 e3
      obtain ⟨m, hm⟩ : ∃ m, PL.length = m := ⟨_, rfl⟩
      rw [hm] at e0
      have HM := hide' hm
      obtain ⟨w3, h3⟩ : ∃ v, wo.alloc (.cells #[.slice pp m pc, .int .i64 prk, .int .i64 pnow] 39) = v := ⟨_, rfl⟩
      have HG3 : Hid (wo.grownBy w3 none) := h3 ▸ World.grownBy_alloc wo _ none
      have HX3 : Hid (Bx w3 wo.heap.size #[.slice pp m pc, .int .i64 prk, .int .i64 pnow] 39) := h3 ▸ World.alloc_heap_new wo _
      have HB3 : Hid (Below a1.heap.size a1 w3) := HBr.out.grown HG3.out HBr.out.size (fun k e => by cases e)
      have HPL : Hid (RsAt w3 pp PL) := rs_bel e3 (below_grownC HG3.out)
      have HF : Hid (∀ V : World, Below w3.heap.size w3 V → (V.cell? ⟨w.heap.size, 1, none⟩ = some (.int .i64 rank) ∧ V.cell? ⟨w.heap.size, 2, none⟩ = some (.slice pk n ck)) ∧ (V.cell? ⟨wo.heap.size, 0, none⟩ = some (.slice pp m pc) ∧ V.cell? ⟨wo.heap.size, 1, none⟩ = some (.int .i64 prk) ∧ V.cell? ⟨wo.heap.size, 2, none⟩ = some (.int .i64 pnow)) ∧ RsAt V pp PL ∧ RsAt V pk K) := fun V hV => by
        have hb : Below a1.heap.size a1 V := bstep HB3.out hV HB3.out.size
        obtain ⟨-, q1, q2⟩ := bx3P (HX1.out.below hb HX1.out.lt)
        exact ⟨⟨q1, q2⟩, bx3P (HX3.out.below hV HX3.out.lt), rs_bel HPL.out hV, rs_bel HK1.out hb⟩
      obtain ⟨⟨c1, c2⟩, ⟨p0, p1, p2⟩, -, -⟩ := HF.out w3 (Below.refl _ _)
      have HTp := hide' (HP.out _ HTm.out)
      obtain ⟨s0, hs0⟩ : ∃ s0, ((prk == rank) && decide (m = n)) = s0 := ⟨_, rfl⟩
      have HS0 := hide' hs0
      have HPt : Hid (ptB rank now K ⟨pp, pc, PL, prk, pnow⟩ = (s0 && jsC now pnow PL K n)) := by unfold Hid ptB; rw [← hs0, HM.out, HNK.out]
      clear e3 hm
      have hcs : ((prk == rank) = true ∧ m = n ∧ s0 = true) ∨ ((prk == rank) = true ∧ ¬ m = n ∧ s0 = false) ∨ ((prk == rank) = false ∧ s0 = false) := by
        cases c1 : (prk == rank) with
        | false => right; right; rw [c1] at hs0; exact ⟨rfl, hs0.symm⟩
        | true =>
          rw [c1] at hs0
          by_cases c2 : m = n
          · left; rw [decide_eq_true c2] at hs0; exact ⟨rfl, c2, hs0.symm⟩
          · right; left; rw [decide_eq_false c2] at hs0; exact ⟨rfl, c2, hs0.symm⟩
      clear hs0
      rcases hcs with ⟨hr, hmn, rfl⟩ | ⟨hr, hmn, rfl⟩ | ⟨hr, rfl⟩
      · -- as many
        subst hmn
        have hmm : ((m : Int) == (m : Int)) = true := beq_self_eq_true _
        clear p0 p1 p2 c1 c2
        obtain ⟨⟨c1, c2⟩, ⟨p0, p1, p2⟩, -, -⟩ := HF.out w3 (Below.refl _ _)
        go_wp2_with fail
        go_loopw [9, 10] (fun sv jv wr => ∃ (b : Bool) (j : Nat), sv = .bool b ∧ jv = .int .i64 (j : Int) ∧ j ≤ m ∧ Hid (b = jsC now pnow PL K j) ∧ Hid (Below w3.heap.size w3 wr)) (fun _ jv _ => m - (intOf jv).toNat)
        case atStart => exact ⟨true, 0, rfl, rfl, Nat.zero_le _, rfl, Below.refl _ _⟩
        case round =>
          obtain ⟨b, j, rfl, rfl, hj, HJ, HBv⟩ := hrel
          obtain ⟨-, ⟨p0', -, -⟩, -, -⟩ := HF.out wr HBv.out
          cases b with
          | false =>
            have HFl : Hid (ptB rank now K ⟨pp, pc, PL, prk, pnow⟩ = false) := by
              have hmono : ∀ d, jsC now pnow PL K (j + d) = false := fun d => by
                induction d with
                | zero => exact HJ.out.symm
                | succ d ih => show (jsC now pnow PL K (j + d) && _) = false; rw [ih]; rfl
              unfold Hid
              rw [HPt.out]
              have := hmono (m - j)
              rw [show j + (m - j) = m by omega] at this
              rw [this]; simp
            go_wp2_with fail
            go_roundw
            case rel => exact ⟨i + 1, by go_num, hlt, bstep HB3.out HBv.out HB3.out.size, (by unfold Hid; rw [HTk.out, List.any_append, HAny.out]; simp [HFl.out])⟩
            case measure => simp [intOf]; omega
          | true =>
            by_cases hjl : j < m
            · have hjP : j < PL.length := by rw [HM.out]; exact hjl
              have hjK : j < K.length := by rw [HNK.out]; exact hjl
              obtain ⟨-, -, hpl, hpk⟩ := HF.out wr HBv.out
              obtain ⟨g1, o1, hpp, hgl1, x0, x1, x2, x3, x4⟩ := hpl j hjP
              obtain ⟨g2, o2, hpk2, hgl2, y0, y1, y2, y3, y4⟩ := hpk j hjK
              subst hpp hpk2
              obtain ⟨x, hx⟩ : ∃ x, PL[j] = x := ⟨_, rfl⟩
              obtain ⟨y, hyy⟩ : ∃ y, K[j] = y := ⟨_, rfl⟩
              rw [hx] at x0 x1 x2 x3 x4
              rw [hyy] at y0 y1 y2 y3 y4
              have HJs : Hid (jsC now pnow PL K (j + 1) = jC now pnow x y) := by
                unfold Hid
                show (jsC now pnow PL K j && _) = _
                rw [← HJ.out, List.getElem?_eq_getElem hjP, List.getElem?_eq_getElem hjK, hx, hyy]
                simp
              have HYl := hide' (HY.out y (hyy ▸ List.getElem_mem hjK))
              clear hx hyy hpl hpk hjP hjK
              obtain ⟨xo, xt, xc, xl, xd⟩ := x
              obtain ⟨yo, yt, yc, yl, yd⟩ := y
              simp only at x0 x1 x2 x3 x4 y0 y1 y2 y3 y4 HYl
              have HF2 : Hid (∀ V : World, Below wr.heap.size wr V → V.cell? ⟨wo.heap.size, 0, none⟩ = some (.slice (some ⟨g1, o1, none⟩) m pc) ∧ V.cell? ⟨w.heap.size, 2, none⟩ = some (.slice (some ⟨g2, o2, none⟩) m ck) ∧ V.cell? ⟨g1, o1 + j * 5, none⟩ = some (.string xo) ∧ V.cell? ⟨g1, o1 + j * 5 + 1, none⟩ = some (.int .i64 xt) ∧ V.cell? ⟨g1, o1 + j * 5 + 2, none⟩ = some (.int .i64 xc) ∧ V.cell? ⟨g1, o1 + j * 5 + 3, none⟩ = some (.int .i64 xl) ∧ V.cell? ⟨g1, o1 + j * 5 + 4, none⟩ = some (.string xd) ∧ V.cell? ⟨g2, o2 + j * 5, none⟩ = some (.string yo) ∧ V.cell? ⟨g2, o2 + j * 5 + 1, none⟩ = some (.int .i64 yt) ∧ V.cell? ⟨g2, o2 + j * 5 + 2, none⟩ = some (.int .i64 yc) ∧ V.cell? ⟨g2, o2 + j * 5 + 3, none⟩ = some (.int .i64 yl) ∧ V.cell? ⟨g2, o2 + j * 5 + 4, none⟩ = some (.string yd)) := fun V hV => by
                obtain ⟨⟨-, q2⟩, ⟨q3, -, -⟩, -, -⟩ := HF.out V (bstep HBv.out hV HBv.out.size)
                exact ⟨q3, q2, (hV.cell (p := ⟨g1, _, none⟩) hgl1).trans x0, (hV.cell (p := ⟨g1, _, none⟩) hgl1).trans x1, (hV.cell (p := ⟨g1, _, none⟩) hgl1).trans x2, (hV.cell (p := ⟨g1, _, none⟩) hgl1).trans x3, (hV.cell (p := ⟨g1, _, none⟩) hgl1).trans x4, (hV.cell (p := ⟨g2, _, none⟩) hgl2).trans y0, (hV.cell (p := ⟨g2, _, none⟩) hgl2).trans y1, (hV.cell (p := ⟨g2, _, none⟩) hgl2).trans y2, (hV.cell (p := ⟨g2, _, none⟩) hgl2).trans y3, (hV.cell (p := ⟨g2, _, none⟩) hgl2).trans y4⟩
              have HF3 : Hid (∀ V : World, Below wr.heap.size wr V → V.cell? ⟨wo.heap.size, 2, none⟩ = some (.int .i64 pnow)) := fun V hV => by
                obtain ⟨-, ⟨-, -, q5⟩, -, -⟩ := HF.out V (bstep HBv.out hV HBv.out.size)
                exact q5
              clear x0 x1 x2 x3 x4 y0 y1 y2 y3 y4
              have hw1 := wrap_nnC2 (yl + now) (by have := HYl.out; have := HN.out; omega) (by have := HYl.out; have := HN.out; omega)
              have hw2 := wrap_nnC2 (yl + now - pnow) (by have := HYl.out; have := HN.out; have := HTp.out; (try simp only at this); omega) (by have := HYl.out; have := HN.out; have := HTp.out; (try simp only at this); omega)
              obtain ⟨wd, hwd⟩ : ∃ v, wr.drew = v := ⟨_, rfl⟩
              have HGd : Hid (wr.grownBy wd none) := hwd ▸ ⟨rfl, rfl, rfl, Nat.le_refl _, fun _ _ _ => rfl⟩
              go_wp2_with fail
              refine wp_region_held_drew (S := fun V => Below wr.heap.size wr V) (by kernel_rfl) ?_ (fun hHeld => ?_)
              · rw [hwd]; exact below_grownC HGd.out
              rw [hwd] at hHeld ⊢
              refine takeD 0 (some 43) (.pointer (some ⟨wo.heap.size, 0, none⟩)) rfl rfl (by kernel_rfl) (by kernel_rfl) (by kernel_rfl) (fun _ _ _ h => h) (Or.inl ⟨by rfl, ?_⟩) (by assumption) ?_
              · intro w hSw; (try dsimp only at hSw); obtain ⟨p0, c2, x0, x1, x2, x3, x4, y0, y1, y2, y3, y4⟩ := HF2.out w hSw; go_simp <;> (intros; omega)
              simp only [Act.put, List.setIfInBounds_toArray, List.set_cons_zero, List.set_cons_succ]
              refine takeD 1 (some 44) (.slice (some ⟨g1, o1, none⟩) m pc) rfl rfl (by kernel_rfl) (by kernel_rfl) (by kernel_rfl) (fun _ _ _ h => h) (Or.inl ⟨by rfl, ?_⟩) (by assumption) ?_
              · intro w hSw; (try dsimp only at hSw); obtain ⟨p0, c2, x0, x1, x2, x3, x4, y0, y1, y2, y3, y4⟩ := HF2.out w hSw; go_simp <;> (intros; omega)
              simp only [Act.put, List.setIfInBounds_toArray, List.set_cons_zero, List.set_cons_succ]
              refine takeD 2 (some 45) (.int .i64 (j : Int)) rfl rfl (by kernel_rfl) (by kernel_rfl) (by kernel_rfl) (fun _ _ _ h => h) (Or.inl ⟨by rfl, ?_⟩) (by assumption) ?_
              · intro w hSw; (try dsimp only at hSw); obtain ⟨p0, c2, x0, x1, x2, x3, x4, y0, y1, y2, y3, y4⟩ := HF2.out w hSw; go_simp <;> (intros; omega)
              simp only [Act.put, List.setIfInBounds_toArray, List.set_cons_zero, List.set_cons_succ]
              refine takeD 3 (some 46) (.pointer (some ⟨g1, o1 + j * 5, none⟩)) rfl rfl (by kernel_rfl) (by kernel_rfl) (by kernel_rfl) (fun _ _ _ h => h) (Or.inl ⟨by rfl, ?_⟩) (by assumption) ?_
              · intro w hSw; (try dsimp only at hSw); obtain ⟨p0, c2, x0, x1, x2, x3, x4, y0, y1, y2, y3, y4⟩ := HF2.out w hSw; go_simp <;> (intros; omega)
              simp only [Act.put, List.setIfInBounds_toArray, List.set_cons_zero, List.set_cons_succ]
              refine takeD 4 (some 47) (.agg #[.string xo, .int .i64 xt, .int .i64 xc, .int .i64 xl, .string xd]) rfl rfl (by kernel_rfl) (by kernel_rfl) (by kernel_rfl) (fun _ _ _ h => h) (Or.inl ⟨by rfl, ?_⟩) (by assumption) ?_
              · intro w hSw; (try dsimp only at hSw); obtain ⟨p0, c2, x0, x1, x2, x3, x4, y0, y1, y2, y3, y4⟩ := HF2.out w hSw; go_simp <;> (intros; omega)
              simp only [Act.put, List.setIfInBounds_toArray, List.set_cons_zero, List.set_cons_succ]
              refine takeD 5 (some 48) (.pointer (some ⟨w.heap.size, 2, none⟩)) rfl rfl (by kernel_rfl) (by kernel_rfl) (by kernel_rfl) (fun _ _ _ h => h) (Or.inl ⟨by rfl, ?_⟩) (by assumption) ?_
              · intro w hSw; (try dsimp only at hSw); obtain ⟨p0, c2, x0, x1, x2, x3, x4, y0, y1, y2, y3, y4⟩ := HF2.out w hSw; go_simp <;> (intros; omega)
              simp only [Act.put, List.setIfInBounds_toArray, List.set_cons_zero, List.set_cons_succ]
              refine takeD 6 (some 49) (.slice (some ⟨g2, o2, none⟩) m ck) rfl rfl (by kernel_rfl) (by kernel_rfl) (by kernel_rfl) (fun _ _ _ h => h) (Or.inl ⟨by rfl, ?_⟩) (by assumption) ?_
              · intro w hSw; (try dsimp only at hSw); obtain ⟨p0, c2, x0, x1, x2, x3, x4, y0, y1, y2, y3, y4⟩ := HF2.out w hSw; go_simp <;> (intros; omega)
              simp only [Act.put, List.setIfInBounds_toArray, List.set_cons_zero, List.set_cons_succ]
              refine takeD 7 (some 50) (.int .i64 (j : Int)) rfl rfl (by kernel_rfl) (by kernel_rfl) (by kernel_rfl) (fun _ _ _ h => h) (Or.inl ⟨by rfl, ?_⟩) (by assumption) ?_
              · intro w hSw; (try dsimp only at hSw); obtain ⟨p0, c2, x0, x1, x2, x3, x4, y0, y1, y2, y3, y4⟩ := HF2.out w hSw; go_simp <;> (intros; omega)
              simp only [Act.put, List.setIfInBounds_toArray, List.set_cons_zero, List.set_cons_succ]
              refine takeD 8 (some 51) (.pointer (some ⟨g2, o2 + j * 5, none⟩)) rfl rfl (by kernel_rfl) (by kernel_rfl) (by kernel_rfl) (fun _ _ _ h => h) (Or.inl ⟨by rfl, ?_⟩) (by assumption) ?_
              · intro w hSw; (try dsimp only at hSw); obtain ⟨p0, c2, x0, x1, x2, x3, x4, y0, y1, y2, y3, y4⟩ := HF2.out w hSw; go_simp <;> (intros; omega)
              simp only [Act.put, List.setIfInBounds_toArray, List.set_cons_zero, List.set_cons_succ]
              refine takeD 9 (some 52) (.agg #[.string yo, .int .i64 yt, .int .i64 yc, .int .i64 yl, .string yd]) rfl rfl (by kernel_rfl) (by kernel_rfl) (by kernel_rfl) (fun _ _ _ h => h) (Or.inl ⟨by rfl, ?_⟩) (by assumption) ?_
              · intro w hSw; (try dsimp only at hSw); obtain ⟨p0, c2, x0, x1, x2, x3, x4, y0, y1, y2, y3, y4⟩ := HF2.out w hSw; go_simp <;> (intros; omega)
              simp only [Act.put, List.setIfInBounds_toArray, List.set_cons_zero, List.set_cons_succ]
              refine wpAnyH_ready (rs := [10, 11]) (by kernel_rfl) (by simp) ?_
              refine AllReadyH.cons rfl (fun K hK => ?_) (AllReadyH.cons rfl (fun K hK => ?_) AllReadyH.nil)
              · go_simp
                go_wp2_with fail
                obtain ⟨wa, hal⟩ : ∃ v, wd.alloc (.cells #[.string ⟨#[]⟩, .int .i64 0, .int .i64 0, .int .i64 0, .string ⟨#[]⟩] 36) = v := ⟨_, rfl⟩
                have HBwa : Hid (Below wr.heap.size wr wa) := hal ▸ (below_grownC HGd.out).alloc (below_grownC HGd.out).size _
                have HAwa : Hid (Bx wa wd.heap.size #[.string ⟨#[]⟩, .int .i64 0, .int .i64 0, .int .i64 0, .string ⟨#[]⟩] 36) := hal ▸ World.alloc_heap_new wd _
                have HGwa : Hid (wd.grownBy wa none) := hal ▸ World.grownBy_alloc wd _ none
                try rw [hal]
                clear hal
                refine hK.out _ _ HBwa.out (fun hHeld => ?_)
                clear hK K
                try simp only [Act.put, List.setIfInBounds_toArray, List.set_cons_zero, List.set_cons_succ]
                refine wpAnyH_ready (rs := [11]) (by kernel_rfl) (by simp) ?_
                refine AllReadyH.cons rfl (fun K hK => ?_) AllReadyH.nil
                go_simp
                go_wp2_with fail
                obtain ⟨wb, hal⟩ : ∃ v, wa.alloc (.cells #[.string ⟨#[]⟩, .int .i64 0, .int .i64 0, .int .i64 0, .string ⟨#[]⟩] 36) = v := ⟨_, rfl⟩
                have HBwb : Hid (Below wr.heap.size wr wb) := hal ▸ HBwa.out.alloc HBwa.out.size _
                have HAwb : Hid (Bx wb wa.heap.size #[.string ⟨#[]⟩, .int .i64 0, .int .i64 0, .int .i64 0, .string ⟨#[]⟩] 36) := hal ▸ World.alloc_heap_new wa _
                have HGwb : Hid (wa.grownBy wb none) := hal ▸ World.grownBy_alloc wa _ none
                try rw [hal]
                clear hal
                refine hK.out _ _ HBwb.out (fun hHeld => ?_)
                clear hK K
                try simp only [Act.put, List.setIfInBounds_toArray, List.set_cons_zero, List.set_cons_succ]
                have HBk12 : Hid (wr.heap.size ≤ wd.heap.size) := by have h1 : wr.heap.size ≤ wd.heap.size := HGd.out.size; have h2 : wd.heap.size ≤ wa.heap.size := HGwa.out.size; unfold Hid; omega
                have HBk13 : Hid (wr.heap.size ≤ wa.heap.size) := by have h1 : wr.heap.size ≤ wd.heap.size := HGd.out.size; have h2 : wd.heap.size ≤ wa.heap.size := HGwa.out.size; unfold Hid; omega
                have hne : wd.heap.size ≠ wa.heap.size := Nat.ne_of_lt HAwa.out.lt
                have HNe : Hid (wd.heap.size ≠ wa.heap.size) := hne
                clear hne
                have HAa := hide' (HAwa.out.grown HGwb.out (by simp))
                have HXb : Hid (Bx wb wd.heap.size #[.string ⟨#[]⟩, .int .i64 0, .int .i64 0, .int .i64 0, .string ⟨#[]⟩] 36) := HAa.out
                have HYb : Hid (Bx wb wa.heap.size #[.string ⟨#[]⟩, .int .i64 0, .int .i64 0, .int .i64 0, .string ⟨#[]⟩] 36) := HAwb.out
                obtain ⟨z0, z1, z2, z3, z4⟩ := bx5C HXb.out
                have f0 := HXb.out.free 0
                have f1 := HXb.out.free 1
                have f2 := HXb.out.free 2
                have f3 := HXb.out.free 3
                have f4 := HXb.out.free 4
                refine wpAnyH_ready (rs := [12]) (by kernel_rfl) (by simp) ?_
                refine AllReadyH.cons rfl (fun K hK => ?_) AllReadyH.nil
                go_simp
                go_wp2_with fail
                obtain ⟨wc, hst⟩ : ∃ v, (((((wb.setCell ⟨wd.heap.size, 0, none⟩ (.string xo)).setCell ⟨wd.heap.size, 1, none⟩ (.int .i64 xt)).setCell ⟨wd.heap.size, 2, none⟩ (.int .i64 xc)).setCell ⟨wd.heap.size, 3, none⟩ (.int .i64 xl)).setCell ⟨wd.heap.size, 4, none⟩ (.string xd)) = v := ⟨_, rfl⟩
                have HXwc : Hid (Bx wc wd.heap.size #[.string xo, .int .i64 xt, .int .i64 xc, .int .i64 xl, .string xd] 36) := hst ▸ ((((HXb.out.set 0 _).set 1 _).set 2 _).set 3 _).set 4 _
                have HBwc : Hid (Below wr.heap.size wr wc) := hst ▸ ((((HBwb.out.setCell (p := ⟨wd.heap.size, 0, none⟩) HBk12.out _).setCell (p := ⟨wd.heap.size, 1, none⟩) HBk12.out _).setCell (p := ⟨wd.heap.size, 2, none⟩) HBk12.out _).setCell (p := ⟨wd.heap.size, 3, none⟩) HBk12.out _).setCell (p := ⟨wd.heap.size, 4, none⟩) HBk12.out _
                have HGwc : Hid (wb.grownBy wc (some wd.heap.size)) := hst ▸ grown_trans (grown_trans (grown_trans (grown_trans (grown_set _ _ _ _) (grown_set _ _ _ _)) (grown_set _ _ _ _)) (grown_set _ _ _ _)) (grown_set _ _ _ _)
                try rw [hst]
                clear hst z0 z1 z2 z3 z4 f0 f1 f2 f3 f4
                refine hK.out _ _ HBwc.out (fun hHeld => ?_)
                clear hK K
                try simp only [Act.put, List.setIfInBounds_toArray, List.set_cons_zero, List.set_cons_succ]
                have HYc := hide' (HYb.out.grown HGwc.out (fun e => HNe.out (by injection e)))
                obtain ⟨z0, z1, z2, z3, z4⟩ := bx5C HYc.out
                have f0 := HYc.out.free 0
                have f1 := HYc.out.free 1
                have f2 := HYc.out.free 2
                have f3 := HYc.out.free 3
                have f4 := HYc.out.free 4
                refine wpAnyH_ready (rs := [13]) (by kernel_rfl) (by simp) ?_
                refine AllReadyH.cons rfl (fun K hK => ?_) AllReadyH.nil
                go_simp
                go_wp2_with fail
                obtain ⟨we, hst⟩ : ∃ v, (((((wc.setCell ⟨wa.heap.size, 0, none⟩ (.string yo)).setCell ⟨wa.heap.size, 1, none⟩ (.int .i64 yt)).setCell ⟨wa.heap.size, 2, none⟩ (.int .i64 yc)).setCell ⟨wa.heap.size, 3, none⟩ (.int .i64 yl)).setCell ⟨wa.heap.size, 4, none⟩ (.string yd)) = v := ⟨_, rfl⟩
                have HXwe : Hid (Bx we wa.heap.size #[.string yo, .int .i64 yt, .int .i64 yc, .int .i64 yl, .string yd] 36) := hst ▸ ((((HYc.out.set 0 _).set 1 _).set 2 _).set 3 _).set 4 _
                have HBwe : Hid (Below wr.heap.size wr we) := hst ▸ ((((HBwc.out.setCell (p := ⟨wa.heap.size, 0, none⟩) HBk13.out _).setCell (p := ⟨wa.heap.size, 1, none⟩) HBk13.out _).setCell (p := ⟨wa.heap.size, 2, none⟩) HBk13.out _).setCell (p := ⟨wa.heap.size, 3, none⟩) HBk13.out _).setCell (p := ⟨wa.heap.size, 4, none⟩) HBk13.out _
                have HGwe : Hid (wc.grownBy we (some wa.heap.size)) := hst ▸ grown_trans (grown_trans (grown_trans (grown_trans (grown_set _ _ _ _) (grown_set _ _ _ _)) (grown_set _ _ _ _)) (grown_set _ _ _ _)) (grown_set _ _ _ _)
                try rw [hst]
                clear hst z0 z1 z2 z3 z4 f0 f1 f2 f3 f4
                refine hK.out _ _ HBwe.out (fun hHeld => ?_)
                clear hK K
                try simp only [Act.put, List.setIfInBounds_toArray, List.set_cons_zero, List.set_cons_succ]
                have HXe := hide' (HXwc.out.grown HGwe.out (fun e => HNe.out (by injection e with e; exact e.symm)))
                refine wpAnyH_done (by kernel_rfl) ?_ _
                clear hHeld
                obtain ⟨u0, u1, u2, u3, u4⟩ := bx5C HXe.out
                obtain ⟨v0, v1, v2, v3, v4⟩ := bx5C HXwe.out
                have p2 := HF3.out we HBwe.out
                unfold jC at HJs
                simp only at HJs
                obtain ⟨BX, hBX⟩ : ∃ b, wd.heap.size = b := ⟨_, rfl⟩
                obtain ⟨BY, hBY⟩ : ∃ b, wa.heap.size = b := ⟨_, rfl⟩
                rw [hBX] at u0 u1 u2 u3 u4
                rw [hBY] at v0 v1 v2 v3 v4
                rw [hBX, hBY]
                clear hBX hBY HNe HXb HYb HYc HAa HXe HXwc HXwe
                by_cases h0 : xo.toList = yo.toList
                · have k0 : (xo.toList == yo.toList) = true := beq_iff_eq.2 h0
                  by_cases h1 : xt = yt
                  · have k1 : (xt == yt) = true := beq_iff_eq.2 h1
                    by_cases h2 : xd.toList = yd.toList
                    · have k2 : (xd.toList == yd.toList) = true := beq_iff_eq.2 h2
                      by_cases h3 : yl > 0
                      · have k3 : decide (yl > 0) = true := decide_eq_true h3
                        by_cases h4 : yl ≤ xl
                        · have k4 : decide (yl ≤ xl) = true := decide_eq_true h4
                          by_cases h5 : yl + now - pnow ≤ xl
                          · have k5 : decide (yl + now - pnow ≤ xl) = true := decide_eq_true h5
                            have HJv : Hid (true = jsC now pnow PL K (j + 1)) := by unfold Hid; rw [HJs.out, k0, k1, k2, k3, k4, k5]; rfl
                            go_wp2_with fail
                            go_roundw
                            case rel => exact ⟨true, j + 1, rfl, by go_num, hjl, HJv.out, bstep HBv.out HBwe.out HBv.out.size⟩
                            case measure => simp [intOf]; omega
                          · have k5 : decide (yl + now - pnow ≤ xl) = false := decide_eq_false h5
                            have HJv : Hid (false = jsC now pnow PL K (j + 1)) := by unfold Hid; rw [HJs.out, k0, k1, k2, k3, k4, k5]; simp
                            go_wp2_with fail
                            go_roundw
                            case rel => exact ⟨false, j + 1, rfl, by go_num, hjl, HJv.out, bstep HBv.out HBwe.out HBv.out.size⟩
                            case measure => simp [intOf]; omega
                        · have k4 : decide (yl ≤ xl) = false := decide_eq_false h4
                          have HJv : Hid (false = jsC now pnow PL K (j + 1)) := by unfold Hid; rw [HJs.out, k0, k1, k2, k3, k4]; simp
                          go_wp2_with fail
                          go_roundw
                          case rel => exact ⟨false, j + 1, rfl, by go_num, hjl, HJv.out, bstep HBv.out HBwe.out HBv.out.size⟩
                          case measure => simp [intOf]; omega
                      · have k3 : decide (yl > 0) = false := decide_eq_false h3
                        have HJv : Hid (false = jsC now pnow PL K (j + 1)) := by unfold Hid; rw [HJs.out, k0, k1, k2, k3]; simp
                        go_wp2_with fail
                        go_roundw
                        case rel => exact ⟨false, j + 1, rfl, by go_num, hjl, HJv.out, bstep HBv.out HBwe.out HBv.out.size⟩
                        case measure => simp [intOf]; omega
                    · have k2 : (xd.toList == yd.toList) = false := beq_eq_false_iff_ne.2 h2
                      have HJv : Hid (false = jsC now pnow PL K (j + 1)) := by unfold Hid; rw [HJs.out, k0, k1, k2]; simp
                      go_wp2_with fail
                      go_roundw
                      case rel => exact ⟨false, j + 1, rfl, by go_num, hjl, HJv.out, bstep HBv.out HBwe.out HBv.out.size⟩
                      case measure => simp [intOf]; omega
                  · have k1 : (xt == yt) = false := beq_eq_false_iff_ne.2 h1
                    have HJv : Hid (false = jsC now pnow PL K (j + 1)) := by unfold Hid; rw [HJs.out, k0, k1]; simp
                    go_wp2_with fail
                    go_roundw
                    case rel => exact ⟨false, j + 1, rfl, by go_num, hjl, HJv.out, bstep HBv.out HBwe.out HBv.out.size⟩
                    case measure => simp [intOf]; omega
                · have k0 : (xo.toList == yo.toList) = false := beq_eq_false_iff_ne.2 h0
                  have HJv : Hid (false = jsC now pnow PL K (j + 1)) := by unfold Hid; rw [HJs.out, k0]; simp
                  go_wp2_with fail
                  go_roundw
                  case rel => exact ⟨false, j + 1, rfl, by go_num, hjl, HJv.out, bstep HBv.out HBwe.out HBv.out.size⟩
                  case measure => simp [intOf]; omega
              · go_simp
                go_wp2_with fail
                obtain ⟨wa, hal⟩ : ∃ v, wd.alloc (.cells #[.string ⟨#[]⟩, .int .i64 0, .int .i64 0, .int .i64 0, .string ⟨#[]⟩] 36) = v := ⟨_, rfl⟩
                have HBwa : Hid (Below wr.heap.size wr wa) := hal ▸ (below_grownC HGd.out).alloc (below_grownC HGd.out).size _
                have HAwa : Hid (Bx wa wd.heap.size #[.string ⟨#[]⟩, .int .i64 0, .int .i64 0, .int .i64 0, .string ⟨#[]⟩] 36) := hal ▸ World.alloc_heap_new wd _
                have HGwa : Hid (wd.grownBy wa none) := hal ▸ World.grownBy_alloc wd _ none
                try rw [hal]
                clear hal
                refine hK.out _ _ HBwa.out (fun hHeld => ?_)
                clear hK K
                try simp only [Act.put, List.setIfInBounds_toArray, List.set_cons_zero, List.set_cons_succ]
                refine wpAnyH_ready (rs := [10]) (by kernel_rfl) (by simp) ?_
                refine AllReadyH.cons rfl (fun K hK => ?_) AllReadyH.nil
                go_simp
                go_wp2_with fail
                obtain ⟨wb, hal⟩ : ∃ v, wa.alloc (.cells #[.string ⟨#[]⟩, .int .i64 0, .int .i64 0, .int .i64 0, .string ⟨#[]⟩] 36) = v := ⟨_, rfl⟩
                have HBwb : Hid (Below wr.heap.size wr wb) := hal ▸ HBwa.out.alloc HBwa.out.size _
                have HAwb : Hid (Bx wb wa.heap.size #[.string ⟨#[]⟩, .int .i64 0, .int .i64 0, .int .i64 0, .string ⟨#[]⟩] 36) := hal ▸ World.alloc_heap_new wa _
                have HGwb : Hid (wa.grownBy wb none) := hal ▸ World.grownBy_alloc wa _ none
                try rw [hal]
                clear hal
                refine hK.out _ _ HBwb.out (fun hHeld => ?_)
                clear hK K
                try simp only [Act.put, List.setIfInBounds_toArray, List.set_cons_zero, List.set_cons_succ]
                have HBk12 : Hid (wr.heap.size ≤ wa.heap.size) := by have h1 : wr.heap.size ≤ wd.heap.size := HGd.out.size; have h2 : wd.heap.size ≤ wa.heap.size := HGwa.out.size; unfold Hid; omega
                have HBk13 : Hid (wr.heap.size ≤ wd.heap.size) := by have h1 : wr.heap.size ≤ wd.heap.size := HGd.out.size; have h2 : wd.heap.size ≤ wa.heap.size := HGwa.out.size; unfold Hid; omega
                have hne : wd.heap.size ≠ wa.heap.size := Nat.ne_of_lt HAwa.out.lt
                have HNe : Hid (wa.heap.size ≠ wd.heap.size) := hne.symm
                clear hne
                have HAa := hide' (HAwa.out.grown HGwb.out (by simp))
                have HXb : Hid (Bx wb wa.heap.size #[.string ⟨#[]⟩, .int .i64 0, .int .i64 0, .int .i64 0, .string ⟨#[]⟩] 36) := HAwb.out
                have HYb : Hid (Bx wb wd.heap.size #[.string ⟨#[]⟩, .int .i64 0, .int .i64 0, .int .i64 0, .string ⟨#[]⟩] 36) := HAa.out
                obtain ⟨z0, z1, z2, z3, z4⟩ := bx5C HXb.out
                have f0 := HXb.out.free 0
                have f1 := HXb.out.free 1
                have f2 := HXb.out.free 2
                have f3 := HXb.out.free 3
                have f4 := HXb.out.free 4
                refine wpAnyH_ready (rs := [12]) (by kernel_rfl) (by simp) ?_
                refine AllReadyH.cons rfl (fun K hK => ?_) AllReadyH.nil
                go_simp
                go_wp2_with fail
                obtain ⟨wc, hst⟩ : ∃ v, (((((wb.setCell ⟨wa.heap.size, 0, none⟩ (.string xo)).setCell ⟨wa.heap.size, 1, none⟩ (.int .i64 xt)).setCell ⟨wa.heap.size, 2, none⟩ (.int .i64 xc)).setCell ⟨wa.heap.size, 3, none⟩ (.int .i64 xl)).setCell ⟨wa.heap.size, 4, none⟩ (.string xd)) = v := ⟨_, rfl⟩
                have HXwc : Hid (Bx wc wa.heap.size #[.string xo, .int .i64 xt, .int .i64 xc, .int .i64 xl, .string xd] 36) := hst ▸ ((((HXb.out.set 0 _).set 1 _).set 2 _).set 3 _).set 4 _
                have HBwc : Hid (Below wr.heap.size wr wc) := hst ▸ ((((HBwb.out.setCell (p := ⟨wa.heap.size, 0, none⟩) HBk12.out _).setCell (p := ⟨wa.heap.size, 1, none⟩) HBk12.out _).setCell (p := ⟨wa.heap.size, 2, none⟩) HBk12.out _).setCell (p := ⟨wa.heap.size, 3, none⟩) HBk12.out _).setCell (p := ⟨wa.heap.size, 4, none⟩) HBk12.out _
                have HGwc : Hid (wb.grownBy wc (some wa.heap.size)) := hst ▸ grown_trans (grown_trans (grown_trans (grown_trans (grown_set _ _ _ _) (grown_set _ _ _ _)) (grown_set _ _ _ _)) (grown_set _ _ _ _)) (grown_set _ _ _ _)
                try rw [hst]
                clear hst z0 z1 z2 z3 z4 f0 f1 f2 f3 f4
                refine hK.out _ _ HBwc.out (fun hHeld => ?_)
                clear hK K
                try simp only [Act.put, List.setIfInBounds_toArray, List.set_cons_zero, List.set_cons_succ]
                have HYc := hide' (HYb.out.grown HGwc.out (fun e => HNe.out (by injection e)))
                obtain ⟨z0, z1, z2, z3, z4⟩ := bx5C HYc.out
                have f0 := HYc.out.free 0
                have f1 := HYc.out.free 1
                have f2 := HYc.out.free 2
                have f3 := HYc.out.free 3
                have f4 := HYc.out.free 4
                refine wpAnyH_ready (rs := [13]) (by kernel_rfl) (by simp) ?_
                refine AllReadyH.cons rfl (fun K hK => ?_) AllReadyH.nil
                go_simp
                go_wp2_with fail
                obtain ⟨we, hst⟩ : ∃ v, (((((wc.setCell ⟨wd.heap.size, 0, none⟩ (.string yo)).setCell ⟨wd.heap.size, 1, none⟩ (.int .i64 yt)).setCell ⟨wd.heap.size, 2, none⟩ (.int .i64 yc)).setCell ⟨wd.heap.size, 3, none⟩ (.int .i64 yl)).setCell ⟨wd.heap.size, 4, none⟩ (.string yd)) = v := ⟨_, rfl⟩
                have HXwe : Hid (Bx we wd.heap.size #[.string yo, .int .i64 yt, .int .i64 yc, .int .i64 yl, .string yd] 36) := hst ▸ ((((HYc.out.set 0 _).set 1 _).set 2 _).set 3 _).set 4 _
                have HBwe : Hid (Below wr.heap.size wr we) := hst ▸ ((((HBwc.out.setCell (p := ⟨wd.heap.size, 0, none⟩) HBk13.out _).setCell (p := ⟨wd.heap.size, 1, none⟩) HBk13.out _).setCell (p := ⟨wd.heap.size, 2, none⟩) HBk13.out _).setCell (p := ⟨wd.heap.size, 3, none⟩) HBk13.out _).setCell (p := ⟨wd.heap.size, 4, none⟩) HBk13.out _
                have HGwe : Hid (wc.grownBy we (some wd.heap.size)) := hst ▸ grown_trans (grown_trans (grown_trans (grown_trans (grown_set _ _ _ _) (grown_set _ _ _ _)) (grown_set _ _ _ _)) (grown_set _ _ _ _)) (grown_set _ _ _ _)
                try rw [hst]
                clear hst z0 z1 z2 z3 z4 f0 f1 f2 f3 f4
                refine hK.out _ _ HBwe.out (fun hHeld => ?_)
                clear hK K
                try simp only [Act.put, List.setIfInBounds_toArray, List.set_cons_zero, List.set_cons_succ]
                have HXe := hide' (HXwc.out.grown HGwe.out (fun e => HNe.out (by injection e with e; exact e.symm)))
                refine wpAnyH_done (by kernel_rfl) ?_ _
                clear hHeld
                obtain ⟨u0, u1, u2, u3, u4⟩ := bx5C HXe.out
                obtain ⟨v0, v1, v2, v3, v4⟩ := bx5C HXwe.out
                have p2 := HF3.out we HBwe.out
                unfold jC at HJs
                simp only at HJs
                obtain ⟨BX, hBX⟩ : ∃ b, wa.heap.size = b := ⟨_, rfl⟩
                obtain ⟨BY, hBY⟩ : ∃ b, wd.heap.size = b := ⟨_, rfl⟩
                rw [hBX] at u0 u1 u2 u3 u4
                rw [hBY] at v0 v1 v2 v3 v4
                rw [hBX, hBY]
                clear hBX hBY HNe HXb HYb HYc HAa HXe HXwc HXwe
                by_cases h0 : xo.toList = yo.toList
                · have k0 : (xo.toList == yo.toList) = true := beq_iff_eq.2 h0
                  by_cases h1 : xt = yt
                  · have k1 : (xt == yt) = true := beq_iff_eq.2 h1
                    by_cases h2 : xd.toList = yd.toList
                    · have k2 : (xd.toList == yd.toList) = true := beq_iff_eq.2 h2
                      by_cases h3 : yl > 0
                      · have k3 : decide (yl > 0) = true := decide_eq_true h3
                        by_cases h4 : yl ≤ xl
                        · have k4 : decide (yl ≤ xl) = true := decide_eq_true h4
                          by_cases h5 : yl + now - pnow ≤ xl
                          · have k5 : decide (yl + now - pnow ≤ xl) = true := decide_eq_true h5
                            have HJv : Hid (true = jsC now pnow PL K (j + 1)) := by unfold Hid; rw [HJs.out, k0, k1, k2, k3, k4, k5]; rfl
                            go_wp2_with fail
                            go_roundw
                            case rel => exact ⟨true, j + 1, rfl, by go_num, hjl, HJv.out, bstep HBv.out HBwe.out HBv.out.size⟩
                            case measure => simp [intOf]; omega
                          · have k5 : decide (yl + now - pnow ≤ xl) = false := decide_eq_false h5
                            have HJv : Hid (false = jsC now pnow PL K (j + 1)) := by unfold Hid; rw [HJs.out, k0, k1, k2, k3, k4, k5]; simp
                            go_wp2_with fail
                            go_roundw
                            case rel => exact ⟨false, j + 1, rfl, by go_num, hjl, HJv.out, bstep HBv.out HBwe.out HBv.out.size⟩
                            case measure => simp [intOf]; omega
                        · have k4 : decide (yl ≤ xl) = false := decide_eq_false h4
                          have HJv : Hid (false = jsC now pnow PL K (j + 1)) := by unfold Hid; rw [HJs.out, k0, k1, k2, k3, k4]; simp
                          go_wp2_with fail
                          go_roundw
                          case rel => exact ⟨false, j + 1, rfl, by go_num, hjl, HJv.out, bstep HBv.out HBwe.out HBv.out.size⟩
                          case measure => simp [intOf]; omega
                      · have k3 : decide (yl > 0) = false := decide_eq_false h3
                        have HJv : Hid (false = jsC now pnow PL K (j + 1)) := by unfold Hid; rw [HJs.out, k0, k1, k2, k3]; simp
                        go_wp2_with fail
                        go_roundw
                        case rel => exact ⟨false, j + 1, rfl, by go_num, hjl, HJv.out, bstep HBv.out HBwe.out HBv.out.size⟩
                        case measure => simp [intOf]; omega
                    · have k2 : (xd.toList == yd.toList) = false := beq_eq_false_iff_ne.2 h2
                      have HJv : Hid (false = jsC now pnow PL K (j + 1)) := by unfold Hid; rw [HJs.out, k0, k1, k2]; simp
                      go_wp2_with fail
                      go_roundw
                      case rel => exact ⟨false, j + 1, rfl, by go_num, hjl, HJv.out, bstep HBv.out HBwe.out HBv.out.size⟩
                      case measure => simp [intOf]; omega
                  · have k1 : (xt == yt) = false := beq_eq_false_iff_ne.2 h1
                    have HJv : Hid (false = jsC now pnow PL K (j + 1)) := by unfold Hid; rw [HJs.out, k0, k1]; simp
                    go_wp2_with fail
                    go_roundw
                    case rel => exact ⟨false, j + 1, rfl, by go_num, hjl, HJv.out, bstep HBv.out HBwe.out HBv.out.size⟩
                    case measure => simp [intOf]; omega
                · have k0 : (xo.toList == yo.toList) = false := beq_eq_false_iff_ne.2 h0
                  have HJv : Hid (false = jsC now pnow PL K (j + 1)) := by unfold Hid; rw [HJs.out, k0]; simp
                  go_wp2_with fail
                  go_roundw
                  case rel => exact ⟨false, j + 1, rfl, by go_num, hjl, HJv.out, bstep HBv.out HBwe.out HBv.out.size⟩
                  case measure => simp [intOf]; omega
            · obtain rfl : j = m := by omega
              have HTr : Hid (ptB rank now K ⟨pp, pc, PL, prk, pnow⟩ = true) := by unfold Hid; rw [HPt.out, ← HJ.out]; rfl
              have HQ : Hid (cameB T rank now K = true) := by unfold Hid cameB; rw [List.any_eq_true]; exact ⟨_, HTm.out, HTr.out⟩
              go_wp2_with fail
              go_ret
              exact ⟨by rw [HQ.out]; rfl, (HB1.out.trans ((bstep HB3.out HBv.out HB3.out.size).mono HB1.out.size))⟩
      · have hmi : ((m : Int) == (n : Int)) = false := by rw [beq_eq_false_iff_ne]; omega
        have HFl : Hid (ptB rank now K ⟨pp, pc, PL, prk, pnow⟩ = false) := by unfold Hid; rw [HPt.out]; rfl
        go_wp2_with fail
        go_loopw [9, 10] (fun sv jv wr => sv = .bool false ∧ jv = .int .i64 0 ∧ Hid (wr = w3)) (fun _ _ _ => 0)
        case atStart => exact ⟨rfl, rfl, rfl⟩
        case round =>
          obtain ⟨rfl, rfl, hwv⟩ := hrel
          have hwv' : _ = w3 := hwv
          subst hwv'
          go_wp2_with fail
          go_roundw
          case rel => exact ⟨i + 1, by go_num, hlt, HB3.out, (by unfold Hid; rw [HTk.out, List.any_append, HAny.out]; simp [HFl.out])⟩
          case measure => simp [intOf]; omega
      · skip
        have HFl : Hid (ptB rank now K ⟨pp, pc, PL, prk, pnow⟩ = false) := by unfold Hid; rw [HPt.out]; rfl
        go_wp2_with fail
        go_loopw [9, 10] (fun sv jv wr => sv = .bool false ∧ jv = .int .i64 0 ∧ Hid (wr = w3)) (fun _ _ _ => 0)
        case atStart => exact ⟨rfl, rfl, rfl⟩
        case round =>
          obtain ⟨rfl, rfl, hwv⟩ := hrel
          have hwv' : _ = w3 := hwv
          subst hwv'
          go_wp2_with fail
          go_roundw
          case rel => exact ⟨i + 1, by go_num, hlt, HB3.out, (by unfold Hid; rw [HTk.out, List.any_append, HAny.out]; simp [HFl.out])⟩
          case measure => simp [intOf]; omega
    · obtain rfl : i = N := by omega
      have HQ : Hid (cameB T rank now K = false) := by
        unfold Hid cameB
        have h := HAny.out
        rw [List.take_of_length_le (by rw [HNT.out]; exact Nat.le_refl _)] at h
        exact h
      go_wp2_with fail
      go_ret
      exact ⟨by rw [HQ.out]; rfl, HB1.out.trans (HBr.out.mono HB1.out.size)⟩
end Go.Proofs.YtgekfhghambacaaGreat
