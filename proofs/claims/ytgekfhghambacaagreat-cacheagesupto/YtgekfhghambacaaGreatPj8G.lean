import Derived.Test.YtgekfhghambacaaGreatPj6G
import Derived.Test.YtgekfhghambacaaGreatRc1G
import Derived.Test.YtgekfhghambacaaGreatSf8G
import Derived.Test.YtgekfhghambacaaGreatRn0G
import Derived.Deep.RegionHeld3
import Derived.Deep.AppendLies
/-
  Proofs: which NSEC may be used. (The verifier's own text.)
-/
namespace Go.Proofs.YtgekfhghambacaaGreat
set_option linter.unusedVariables false
set_option linter.unusedSimpArgs false
open Go.RowKit Go.Shelf Go.Proofs.YtgekfhghambacaaGreat.Nm

theorem parts_consJ {k : Kind} {ks : List Kind} {d : ByteArray} {ps : List (Kind × ByteArray)} (h : partsOf (k :: ks) d = some ps) : ∃ n qs, kindSize k d = some n ∧ partsOf ks (d.extract n d.size) = some qs ∧ ps = (k, d.extract 0 n) :: qs := by
  rw [partsOf] at h
  cases hk : kindSize k d with
  | none => rw [hk] at h; cases h
  | some n =>
    rw [hk] at h
    change (partsOf ks _).map _ = _ at h
    cases hq : partsOf ks (d.extract n d.size) with
    | none => rw [hq] at h; cases h
    | some qs => rw [hq] at h; simp at h; exact ⟨n, qs, rfl, hq, h.symm⟩
theorem kinds47 : kindsOf 47 = some [.dom, .set] := by decide
theorem zon_err {o d : ByteArray} {t c l : Int} (h : zonB o d t c l = true) : isN o = true ∧ errD t d = 0 := by
  unfold zonB at h
  simp only [Bool.and_eq_true, decide_eq_true_eq] at h
  exact ⟨h.1.1.1.1, h.2⟩
/-- what an NSEC's data have -/
theorem nsec_form {d : ByteArray} (h : errD 47 d = 0) : ∃ n l, n ≤ d.size ∧ n ≤ 255 ∧ isN (d.extract 0 n) = true ∧ namesD 47 d = [d.extract 0 n] ∧ typB (d.extract n d.size) = some l ∧ d.size ≤ 65535 ∧ partsD 47 d = some [(.dom, d.extract 0 n), (.set, d.extract n d.size)] := by
  obtain ⟨ps, hp⟩ := errD_zero h
  have hp0 := hp
  have hn : namesD 47 d = namesOf ps := by unfold namesD; rw [hp]
  unfold partsD at hp
  rw [kinds47] at hp
  change (if _ then _ else _) = _ at hp
  split at hp
  · cases hp
  rename_i hd
  obtain ⟨n, q0, k0, hp1, rfl⟩ := parts_consJ hp
  obtain ⟨m, q1, k1, hp2, rfl⟩ := parts_consJ hp1
  have hq : q1 = [] := by
    unfold partsOf at hp2
    split at hp2
    · simpa using hp2.symm
    · cases hp2
  subst hq
  change domS _ = some n at k0
  obtain ⟨d1, d2, d3, d4⟩ := domS_some k0
  change setS _ = some m at k1
  unfold setS at k1
  cases ht : typB (d.extract n d.size) with
  | none => rw [ht] at k1; cases k1
  | some l =>
    rw [ht] at k1
    have hm : (d.extract n d.size).size = m := by simpa using k1
    have he : (d.extract n d.size).extract 0 m = d.extract n d.size := by rw [← hm]; exact ByteArray.extract_zero_size
    rw [he] at hn hp0
    exact ⟨n, l, by omega, d2, by first | exact d3 | exact d4, by rw [hn]; rfl, ht, by omega, hp0⟩
/-- may it be used at all? -/
def rgB (apex : ByteArray) (r : Rn) : Bool := withinB r.o apex && zonB r.o r.d r.t r.c r.l
set_option maxRecDepth 100000 in
set_option maxHeartbeats 1000000 in
/-- proof.isRight -/
theorem isRight_any (apex : ByteArray) (r : Rn) (w : World) (ha : apex.size ≤ 1048576) (ho : r.o.size ≤ 1048576) (hd : r.d.size ≤ 9223372036854775807) :
    Calls Tryz.prog 68 #[.string apex, recA r] w fun e w' => e = .returned (.bool (rgB apex r)) ∧ Below w.heap.size w w' := by
  obtain ⟨o, t, c, l, d⟩ := r
  change o.size ≤ 1048576 at ho
  change d.size ≤ 9223372036854775807 at hd
  have x0 : Bx (w.alloc (.cells #[.string o, .int .i64 t, .int .i64 c, .int .i64 l, .string d] 36)) w.heap.size #[.string o, .int .i64 t, .int .i64 c, .int .i64 l, .string d] 36 := World.alloc_heap_new w _
  obtain ⟨W, hW⟩ : ∃ W, w.alloc (.cells #[.string o, .int .i64 t, .int .i64 c, .int .i64 l, .string d] 36) = W := ⟨_, rfl⟩
  have HB : Hid (Below w.heap.size w W) := by rw [← hW]; exact (Below.refl _ _).alloc (Nat.le_refl _) _
  rw [hW] at x0
  have HX := hide' x0
  have QF : Hid (∀ V : World, Bx V w.heap.size #[.string o, .int .i64 t, .int .i64 c, .int .i64 l, .string d] 36 → V.cell? ⟨w.heap.size, 0, none⟩ = some (.string o) ∧ V.cell? ⟨w.heap.size, 1, none⟩ = some (.int .i64 t) ∧ V.cell? ⟨w.heap.size, 2, none⟩ = some (.int .i64 c) ∧ V.cell? ⟨w.heap.size, 3, none⟩ = some (.int .i64 l) ∧ V.cell? ⟨w.heap.size, 4, none⟩ = some (.string d)) := fun V h => ⟨h.cell rfl, h.cell rfl, h.cell rfl, h.cell rfl, h.cell rfl⟩
  obtain ⟨k0, k1, k2, k3, k4⟩ := QF.out _ x0
  have HW := hide' (fun W => within_any o apex W (small_max ho) (small_max ha))
  have HR := hide' (fun W => isRecord_any o d t c l W (small_max ho) hd)
  show Calls _ _ _ _ fun e w' => e = .returned (.bool (withinB o apex && zonB o d t c l)) ∧ _
  generalize withinB o apex = a at *
  generalize zonB o d t c l = b at *
  unfold recA
  clear x0 ho hd ha
  cases a <;> cases b
  all_goals (
    go_enter Tryz.func68, Tryz.ntmps68
    go_wp2_with (first
      | (go_at_call 33; refine (HW.out _).mono ?_; rintro r w1 ⟨rfl, hB⟩; have HX1 := hide' (HX.out.below hB HX.out.lt); have HB1 := hide' (bstep HB.out hB HB.out.size); clear hB k0 k1 k2 k3 k4; obtain ⟨k0, k1, k2, k3, k4⟩ := QF.out _ HX1.out)
      | (go_at_call 32; refine (HR.out _).mono ?_; rintro r w2 ⟨rfl, hB⟩; have HB2 := hide' (bstep HB1.out hB HB1.out.size); clear hB))
    go_ret
    exact ⟨rfl, by first | exact HB2.out | exact HB1.out⟩)
/-- an NSEC that may be used -/
def nqOf (apex : ByteArray) (i : Nat) (r : Rn) : List Nq := if r.t = 47 ∧ rgB apex r = true ∧ withinB ((namesD r.t r.d).headD .empty) apex = true then [⟨(i : Int), r.d.extract ((namesD r.t r.d).headD .empty).size r.d.size, r.o, (namesD r.t r.d).headD .empty⟩] else []
/-- those of a list -/
def nqL (apex : ByteArray) (L : List Rn) : Nat → List Nq
  | 0 => []
  | k + 1 => nqL apex L k ++ (match L[k]? with | some r => nqOf apex k r | none => [])
theorem nqL_succ {apex : ByteArray} {L : List Rn} {k : Nat} (hk : k < L.length) : nqL apex L (k + 1) = nqL apex L k ++ nqOf apex k L[k] := by
  rw [nqL, List.getElem?_eq_getElem hk]
theorem nqOf_len (apex : ByteArray) (i : Nat) (r : Rn) : (nqOf apex i r).length ≤ 1 := by unfold nqOf; split <;> simp
theorem nqL_len (apex : ByteArray) (L : List Rn) : ∀ k, (nqL apex L k).length ≤ k
  | 0 => Nat.le_refl _
  | k + 1 => by
    have h1 := nqL_len apex L k
    rw [nqL, List.length_append]
    cases h : L[k]? with
    | none => simp; omega
    | some r => have h2 := nqOf_len apex k r; simp only; omega
theorem nqOf_ok {apex : ByteArray} {i : Nat} {r : Rn} : ∀ x ∈ nqOf apex i r, x.ts.size ≤ 65535 ∧ x.o.size ≤ 255 ∧ x.nx.size ≤ 255 := by
  intro x hx
  unfold nqOf at hx
  split at hx
  · rename_i h
    obtain ⟨h1, h2, h3⟩ := h
    unfold rgB at h2
    rw [Bool.and_eq_true] at h2
    obtain ⟨z1, z2⟩ := zon_err h2.2
    rw [h1] at z2
    obtain ⟨n, l, m1, m2, m3, m4, m5, m6, -⟩ := nsec_form z2
    rw [List.mem_singleton] at hx
    subst hx
    rw [h1, m4]
    refine ⟨?_, ((isN_iff _).1 z1).1, ((isN_iff _).1 m3).1⟩
    show (r.d.extract _ r.d.size).size ≤ _
    rw [size_extract' _ _ _ (Nat.le_refl _)]
    omega
  · cases hx
theorem nqL_ok {apex : ByteArray} {L : List Rn} : ∀ k, NOk (nqL apex L k)
  | 0 => fun x hx => by cases hx
  | k + 1 => fun x hx => by
    rw [nqL] at hx
    rcases List.mem_append.1 hx with h | h
    · exact nqL_ok k x h
    · cases e : L[k]? with
      | none => rw [e] at h; cases h
      | some r => rw [e] at h; exact nqOf_ok x h
end Go.Proofs.YtgekfhghambacaaGreat

/-
  Proofs: the NSEC of a list. (The verifier's own text.)
-/
namespace Go.Proofs.YtgekfhghambacaaGreat
set_option linter.unusedVariables false
set_option linter.unusedSimpArgs false
open Go.RowKit Go.Shelf Go.Proofs.YtgekfhghambacaaGreat.Nm

/-- NSEC as cells -/
def nce (M : List Nq) : List Value := M.flatMap fun x => [.int .i64 x.pl, .string x.ts, .string x.o, .string x.nx]
theorem nce_get (M : List Nq) : ∀ k (h : k < M.length), (nce M)[k * 4]? = some (.int .i64 M[k].pl) ∧ (nce M)[k * 4 + 1]? = some (.string M[k].ts) ∧ (nce M)[k * 4 + 2]? = some (.string M[k].o) ∧ (nce M)[k * 4 + 3]? = some (.string M[k].nx) := by
  induction M with
  | nil => intro k h; simp at h
  | cons x M ih =>
    intro k h
    show ([Value.int .i64 x.pl, .string x.ts, .string x.o, .string x.nx] ++ nce M)[k * 4]? = _ ∧ ([Value.int .i64 x.pl, .string x.ts, .string x.o, .string x.nx] ++ nce M)[k * 4 + 1]? = _ ∧ ([Value.int .i64 x.pl, .string x.ts, .string x.o, .string x.nx] ++ nce M)[k * 4 + 2]? = _ ∧ ([Value.int .i64 x.pl, .string x.ts, .string x.o, .string x.nx] ++ nce M)[k * 4 + 3]? = _
    cases k with
    | zero => exact ⟨rfl, rfl, rfl, rfl⟩
    | succ k =>
      obtain ⟨a, b, c, d⟩ := ih k (by simpa using h)
      rw [show (k + 1) * 4 = k * 4 + 4 by omega]
      exact ⟨by simpa using a, by simpa [Nat.add_right_comm] using b, by simpa [Nat.add_right_comm] using c, by simpa [Nat.add_right_comm] using d⟩
theorem nce_app (M N : List Nq) : nce (M ++ N) = nce M ++ nce N := by unfold nce; rw [List.flatMap_append]
theorem infoNq : (Tryz.prog.info? 118).map (fun i => (i.zero, i.size, i.bytes)) = some (some (.agg #[.int .i64 0, .string .empty, .string .empty, .string .empty]), 4, 56) := by kernel_rfl
theorem nsAt_own {w : World} {base : Nat} {p : Option Addr} {c : Nat} {M : List Nq} (h : w.ownsRow base 118 4 (.slice p M.length c) M.length (nce M)) : NsAt w p M := fun k hk => by
  have h' := h
  obtain ⟨_, (⟨h1, h2⟩ | ⟨g, cap, cur, h1, hb, hg, hn', hcap, _⟩)⟩ := h'
  · omega
  · injection h1 with h1 h2 h3
    subst h1
    obtain ⟨e0, e1, e2, e3⟩ := nce_get M k hk
    refine ⟨g, 0, rfl, (Array.getElem?_eq_some_iff.1 hg).1, ?_, ?_, ?_, ?_⟩
    · rw [Nat.zero_add, h.cellAt (k * 4) (by omega), e0]
    · rw [Nat.zero_add, h.cellAt (k * 4 + 1) (by omega), e1]
    · rw [Nat.zero_add, h.cellAt (k * 4 + 2) (by omega), e2]
    · rw [Nat.zero_add, h.cellAt (k * 4 + 3) (by omega), e3]
end Go.Proofs.YtgekfhghambacaaGreat

/-
  Proofs: the NSEC of a list that may be used. (The verifier's own text.)
-/
namespace Go.Proofs.YtgekfhghambacaaGreat
set_option linter.unusedVariables false
set_option linter.unusedSimpArgs false
open Go.RowKit Go.Shelf Go.Proofs.YtgekfhghambacaaGreat.Nm

theorem own_fstJ {w : World} {base : Nat} {p : Option Addr} {c : Nat} {S : ByteArray} (h : w.ownsRow base 9 1 (.slice p [S].length c) [S].length ([S].map Value.string)) : ∃ g, p = some ⟨g, 0, none⟩ ∧ w.cell? ⟨g, 0, none⟩ = some (.string S) := by
  rcases id h.2 with ⟨h1, h0⟩ | ⟨g, cap, cur, h1, _⟩
  · cases h0
  · injection h1 with h1 h2 h3
    subst h1
    exact ⟨g, rfl, by rw [h.cellAt 0 (by simp)]; rfl⟩
theorem ownBlk_ne {w : World} {base e s n : Nat} {v : Value} {xs : List Value} (h : w.ownsRow base e s v n xs) : v.ownBlock ≠ some w.heap.size := by
  obtain ⟨_, (⟨rfl, _⟩ | ⟨g, cap, cur, rfl, hb, hg, _⟩)⟩ := h
  · intro h; cases h
  · intro h2
    have hlt := (Array.getElem?_eq_some_iff.1 hg).1
    have h3 : g = w.heap.size := by simpa [Value.ownBlock] using h2
    omega
/-- what lies in memory along a round of nsecsOf -/
def LsJ (w wc : World) (B : Nat) (rc : Array Value) (p : Option Addr) (L : List Rn) (v : Value) (M : List Nq) : Prop := Bx wc B rc 36 ∧ wc.ownsRow w.heap.size 118 4 v M.length (nce M) ∧ Below w.heap.size w wc ∧ RsAt wc p L
theorem LsJ.step {w wc wd : World} {B : Nat} {rc : Array Value} {p : Option Addr} {L : List Rn} {v : Value} {M : List Nq} (h : LsJ w wc B rc p L v M) (hB : Below wc.heap.size wc wd) : LsJ w wd B rc p L v M := ⟨h.1.below hB h.1.lt, ownsRow_below h.2.1 hB, bstep h.2.2.1 hB h.2.2.1.size, rsAt_below7 h.2.2.2 hB⟩
theorem LsJ.start {w wr : World} {rc : Array Value} {p : Option Addr} {L : List Rn} {v : Value} {M : List Nq} (ho : wr.ownsRow w.heap.size 118 4 v M.length (nce M)) (hB : Below w.heap.size w wr) (hat : RsAt wr p L) : LsJ w (wr.alloc (.cells rc 36)) wr.heap.size rc p L v M := by
  have h1 : Below wr.heap.size wr (wr.alloc (.cells rc 36)) := (Below.refl _ _).alloc (Nat.le_refl _) _
  exact ⟨World.alloc_heap_new wr _, ownsRow_below ho h1, bstep hB h1 hB.size, rsAt_below7 hat h1⟩
theorem LsJ.cells {w wc : World} {B : Nat} {o d : ByteArray} {t c l : Int} {p : Option Addr} {L : List Rn} {v : Value} {M : List Nq} (h : LsJ w wc B #[.string o, .int .i64 t, .int .i64 c, .int .i64 l, .string d] p L v M) : wc.cell? ⟨B, 0, none⟩ = some (.string o) ∧ wc.cell? ⟨B, 1, none⟩ = some (.int .i64 t) ∧ wc.cell? ⟨B, 2, none⟩ = some (.int .i64 c) ∧ wc.cell? ⟨B, 3, none⟩ = some (.int .i64 l) ∧ wc.cell? ⟨B, 4, none⟩ = some (.string d) := ⟨h.1.cell rfl, h.1.cell rfl, h.1.cell rfl, h.1.cell rfl, h.1.cell rfl⟩
set_option maxRecDepth 100000 in
set_option maxHeartbeats 4000000 in
/-- proof.nsecsOf -/
theorem nsecsOf_any (apex : ByteArray) (L : List Rn) (p : Option Addr) (cap : Nat) (w : World) (hL : L.length ≤ 1048576) (ha : apex.size ≤ 1048576) (hat : RsAt w p L) (hz : ∀ r ∈ L, r.o.size ≤ 1048576 ∧ r.d.size ≤ 9223372036854775807) :
    Calls Tryz.prog 53 #[.string apex, .slice p L.length cap] w fun r w' => (∃ v, r = .returned v ∧ w'.ownsRow w.heap.size 118 4 v (nqL apex L L.length).length (nce (nqL apex L L.length))) ∧ Below w.heap.size w w' := by
  obtain ⟨i0, hi0, hz0, hz1, hz2⟩ := info_parts infoNq
  have HAT := hide' hat
  have HZ := hide' hz
  clear hat hz
  go_enter Tryz.func53, Tryz.ntmps53
  go_wp2_with fail
  go_loopw [5, 11] (fun vl iv wr => ∃ k : Nat, iv = .int .i64 (k : Int) ∧ k ≤ L.length ∧ Hid (wr.ownsRow w.heap.size 118 4 vl (nqL apex L k).length (nce (nqL apex L k))) ∧ Hid (Below w.heap.size w wr)) (fun _ iv _ => L.length - (intOf iv).toNat)
  case atStart => exact ⟨0, rfl, Nat.zero_le _, World.ownsRow_nil _ _ _ _, Below.refl _ _⟩
  case round =>
    obtain ⟨k, rfl, hk, HO, HB⟩ := hrel
    by_cases hlt : k < L.length
    · have hki : (k : Int) < (L.length : Int) := by omega
      have hM := nqL_len apex L k
      obtain ⟨g, off, hpp, hg, e0, e1, e2, e3, e4⟩ := (rsAt_below7 HAT.out HB.out) k hlt
      obtain ⟨z1, z2⟩ := HZ.out _ (List.getElem_mem hlt)
      have HSU := hide' (nqL_succ (apex := apex) hlt)
      obtain ⟨x, hx⟩ : ∃ x, L[k] = x := ⟨_, rfl⟩
      rw [hx] at e0 e1 e2 e3 e4 z1 z2 HSU
      have HIR := hide' (fun W => isRight_any apex x W ha z1 z2)
      have HNM := hide' (fun W => names_any x.t x.d W z2)
      clear hx
      obtain ⟨o, t, c, l, d⟩ := x
      unfold recA at HIR
      dsimp only at e0 e1 e2 e3 e4 z1 z2 HIR HNM
      generalize nqL apex L k = M at *
      have S1 := hide' (LsJ.start (rc := #[.string o, .int .i64 t, .int .i64 c, .int .i64 l, .string d]) HO.out HB.out (rsAt_below7 HAT.out HB.out))
      subst hpp
      obtain ⟨W1, hW1⟩ : ∃ W1, wr.alloc (.cells #[.string o, .int .i64 t, .int .i64 c, .int .i64 l, .string d] 36) = W1 := ⟨_, rfl⟩
      rw [hW1] at S1
      obtain ⟨c0, c1, c2, c3, c4⟩ := S1.out.cells
      by_cases ht : t = 47
      rotate_left
      · have HN : Hid (nqL apex L (k + 1) = M) := by unfold Hid; rw [HSU.out]; unfold nqOf; rw [if_neg (fun h => ht h.1)]; simp
        go_wp2_with fail
        refine ⟨⟨k + 1, by go_num, by omega, ?_, S1.out.2.2.1⟩, by simp [intOf]; omega⟩
        rw [HN.out]
        exact S1.out.2.1
      subst ht
      cases hr : rgB apex ⟨o, 47, c, l, d⟩ with
      | false =>
        have HN : Hid (nqL apex L (k + 1) = M) := by unfold Hid; rw [HSU.out]; unfold nqOf; rw [if_neg (fun h => by rw [hr] at h; cases h.2.1)]; simp
        rw [hr] at HIR
        clear hr
        go_wp2_with (first
          | (go_at_call 68; refine (HIR.out _).mono ?_; rintro r w2 ⟨rfl, hB⟩; have S2 := hide' (S1.out.step hB); clear hB))
        refine ⟨⟨k + 1, by go_num, by omega, ?_, S2.out.2.2.1⟩, by simp [intOf]; omega⟩
        rw [HN.out]
        exact S2.out.2.1
      | true =>
        have hrr := hr
        unfold rgB at hr
        rw [Bool.and_eq_true] at hr
        obtain ⟨n, ll, m1, m2, m3, m4, m5, m6, -⟩ := nsec_form (zon_err hr.2).2
        dsimp only at m1 m2 m3 m4 m5 m6
        rw [hrr] at HIR
        have hNz : (d.extract 0 n).size = n := by rw [size_extract' _ _ _ m1]; omega
        have HHD : Hid ((namesD 47 d).headD .empty = d.extract 0 n) := by unfold Hid; rw [m4]; rfl
        rw [m4] at HNM
        have HWI := hide' (fun W => within_any (d.extract 0 n) apex W (small_max (by omega)) (small_max ha))
        obtain ⟨N, hN⟩ : ∃ N, d.extract 0 n = N := ⟨_, rfl⟩
        rw [hN] at HNM HWI HHD hNz
        clear hr m3 m4 m5 hN
        cases hw : withinB N apex with
        | false =>
          have HN : Hid (nqL apex L (k + 1) = M) := by unfold Hid; rw [HSU.out]; unfold nqOf; rw [if_neg (fun h => by have h2 := h.2.2; rw [HHD.out, hw] at h2; cases h2)]; simp
          rw [hw] at HWI
          go_wp2_with (first
            | (go_at_call 68; refine (HIR.out _).mono ?_; rintro r w2 ⟨rfl, hB⟩; have S2 := hide' (S1.out.step hB); clear hB c0 c1 c2 c3 c4; obtain ⟨c0, c1, c2, c3, c4⟩ := S2.out.cells)
            | (go_at_call 69; refine (HNM.out _).mono ?_; rintro r w3 ⟨pn, cn, rfl, hon, hB⟩; have S3 := hide' (S2.out.step hB); obtain ⟨gn, rfl, n0⟩ := own_fstJ hon; clear hB hon c0 c1 c2 c3 c4; obtain ⟨c0, c1, c2, c3, c4⟩ := S3.out.cells)
            | (go_at_call 33; refine (HWI.out _).mono ?_; rintro r w4 ⟨rfl, hB⟩; have S4 := hide' (S3.out.step hB); clear hB))
          refine ⟨⟨k + 1, by go_num, by omega, ?_, S4.out.2.2.1⟩, by simp [intOf]; omega⟩
          rw [HN.out]
          exact S4.out.2.1
        | true =>
          have HN : Hid (nqL apex L (k + 1) = M ++ [⟨(k : Int), d.extract n d.size, o, N⟩]) := by unfold Hid; rw [HSU.out]; unfold nqOf; rw [if_pos ⟨rfl, hrr, by rw [HHD.out]; exact hw⟩]; dsimp only; rw [HHD.out, hNz]
          rw [hw] at HWI
          have hni : (N.size : Int) = (n : Int) := by omega
          have hnd : (n : Int) ≤ (d.size : Int) := by omega
          go_wp2_with (first
            | (go_at_call 68; refine (HIR.out _).mono ?_; rintro r w2 ⟨rfl, hB⟩; have S2 := hide' (S1.out.step hB); clear hB c0 c1 c2 c3 c4; obtain ⟨c0, c1, c2, c3, c4⟩ := S2.out.cells)
            | (go_at_call 69; refine (HNM.out _).mono ?_; rintro r w3 ⟨pn, cn, rfl, hon, hB⟩; have S3 := hide' (S2.out.step hB); obtain ⟨gn, rfl, n0⟩ := own_fstJ hon; clear hB hon c0 c1 c2 c3 c4; obtain ⟨c0, c1, c2, c3, c4⟩ := S3.out.cells)
            | (go_at_call 33; refine (HWI.out _).mono ?_; rintro r w4 ⟨rfl, hB⟩; have S4 := hide' (S3.out.step hB); clear hB c0 c1 c2 c3 c4 n0; obtain ⟨c0, c1, c2, c3, c4⟩ := S4.out.cells))
          have hsz4 : w.heap.size ≤ w4.heap.size := S4.out.2.2.1.size
          have hn1 : M.length + 1 ≤ maxLen := by unfold maxLen; omega
          have hb1 : (M.length + 1) * 56 ≤ 140737488355328 := by omega
          have ag := ownBlk_ne HO.out
          have hwl : wr.heap.size < w4.heap.size := S4.out.1.lt
          go_region_held3 (fun V => V.cell? ⟨wr.heap.size, 0, none⟩ = some (.string o) ∧ V.cell? ⟨wr.heap.size, 4, none⟩ = some (.string d))
            (first
              | go_keep
              | (go_split_ands
                 refine ⟨?_, ?_⟩
                 · (rw [hgrow.cell_far _ (by simp; omega) (Ne.symm ag)]; assumption)
                 · (rw [hgrow.cell_far _ (by simp; omega) (Ne.symm ag)]; assumption)))
            ((refine step_append_lies _ (by rfl) _ _ _ (by rfl) w.heap.size 118 i0 _ 4 56 Tryz.underlying98 hi0 hz0 hz1 hz2 rfl (by omega) u5 M.length (nce M) (by rfl) ((S4.out.2.1.alloc _).drew)
                ⟨w4.heap.size, 0, none⟩ 1 1 [.int .i64 (k : Int), .string (d.extract n d.size), .string o, .string N] (by rfl) (by rfl) (World.news_of_block (cs := #[.int .i64 (k : Int), .string (d.extract n d.size), .string o, .string N]) (t := 118) (fr := (0, 0)) (heap_alloc_new w4 _)) (by simp [Value.oneCell'])
                (by omega) hn1 hb1 (by simp; omega) (w4.heap.size + 1) (by simp) ?_; intro gg cap2 w5 hown5 hgrow hat5 hlt5))
          go_wp2_with fail
          have B4 := (S4.out.2.2.1.alloc hsz4 (.cells #[.int .i64 (k : Int), .string (d.extract n d.size), .string o, .string N] 118)).drew
          have B5 := hide' (B4.grown hgrow B4.size (fun q e => ownBlock_le HO.out e))
          refine ⟨⟨k + 1, by go_num, by omega, ?_, B5⟩, by simp [intOf]; omega⟩
          unfold Hid
          rw [HN.out, nce_app, List.length_append]
          exact hown5
    · obtain rfl : k = L.length := by omega
      go_wp2_with fail
      go_ret
      exact ⟨⟨_, rfl, HO.out⟩, HB.out⟩
end Go.Proofs.YtgekfhghambacaaGreat
