import Derived.Test.YtgekfhghambacaaGreatPjd
import Derived.Laws.IdiomCopy
import Derived.Test.YtgekfhghambacaaGreatFt1G
/-
  Proofs: the NSEC3 of a list that may be used. (The verifier's own text.)
-/
namespace Go.Proofs.YtgekfhghambacaaGreat
set_option linter.unusedVariables false
set_option linter.unusedSimpArgs false
open Go.RowKit Go.Shelf Go.Proofs.YtgekfhghambacaaGreat.Nm

/-- an NSEC3 that may be used: its place, its types, its rounds, its salt, its own hash, the next -/
structure Hq where
  pl : Int
  ts : ByteArray
  rd : Nat
  sl : ByteArray
  ow : ByteArray
  nx : ByteArray
def hA (x : Hq) : Value := .agg #[.int .i64 x.pl, .string x.ts, .int .i64 (x.rd : Int), .string x.sl, .string x.ow, .string x.nx]
def HsAt (w : World) (p : Option Addr) (L : List Hq) : Prop := ∀ k (h : k < L.length), ∃ g off, p = some ⟨g, off, none⟩ ∧ g < w.heap.size ∧ w.cell? ⟨g, off + k * 6, none⟩ = some (.int .i64 L[k].pl) ∧ w.cell? ⟨g, off + k * 6 + 1, none⟩ = some (.string L[k].ts) ∧ w.cell? ⟨g, off + k * 6 + 2, none⟩ = some (.int .i64 (L[k].rd : Int)) ∧ w.cell? ⟨g, off + k * 6 + 3, none⟩ = some (.string L[k].sl) ∧ w.cell? ⟨g, off + k * 6 + 4, none⟩ = some (.string L[k].ow) ∧ w.cell? ⟨g, off + k * 6 + 5, none⟩ = some (.string L[k].nx)
theorem HsAt.below {w w' : World} {p : Option Addr} {L : List Hq} (h : HsAt w p L) (hb : Below w.heap.size w w') : HsAt w' p L := fun k hk => by
  obtain ⟨g, off, hp, hg, h0, h1, h2, h3, h4, h5⟩ := h k hk
  exact ⟨g, off, hp, Nat.lt_of_lt_of_le hg hb.size, (hb.cell (p := ⟨g, off + k * 6, none⟩) hg).trans h0, (hb.cell (p := ⟨g, off + k * 6 + 1, none⟩) hg).trans h1, (hb.cell (p := ⟨g, off + k * 6 + 2, none⟩) hg).trans h2, (hb.cell (p := ⟨g, off + k * 6 + 3, none⟩) hg).trans h3, (hb.cell (p := ⟨g, off + k * 6 + 4, none⟩) hg).trans h4, (hb.cell (p := ⟨g, off + k * 6 + 5, none⟩) hg).trans h5⟩
/-- NSEC3 as cells -/
def hce (M : List Hq) : List Value := M.flatMap fun x => [.int .i64 x.pl, .string x.ts, .int .i64 (x.rd : Int), .string x.sl, .string x.ow, .string x.nx]
theorem hce_len (M : List Hq) : (hce M).length = M.length * 6 := by
  induction M with
  | nil => rfl
  | cons x M ih =>
    show ([_, _, _, _, _, _] ++ hce M).length = _
    rw [List.length_append, ih, List.length_cons]
    simp only [List.length_cons, List.length_nil]
    omega
theorem hce_get (M : List Hq) : ∀ k (h : k < M.length), (hce M)[k * 6]? = some (.int .i64 M[k].pl) ∧ (hce M)[k * 6 + 1]? = some (.string M[k].ts) ∧ (hce M)[k * 6 + 2]? = some (.int .i64 (M[k].rd : Int)) ∧ (hce M)[k * 6 + 3]? = some (.string M[k].sl) ∧ (hce M)[k * 6 + 4]? = some (.string M[k].ow) ∧ (hce M)[k * 6 + 5]? = some (.string M[k].nx) := by
  induction M with
  | nil => intro k h; simp at h
  | cons x M ih =>
    intro k h
    show ([Value.int .i64 x.pl, .string x.ts, .int .i64 (x.rd : Int), .string x.sl, .string x.ow, .string x.nx] ++ hce M)[k * 6]? = _ ∧ ([Value.int .i64 x.pl, .string x.ts, .int .i64 (x.rd : Int), .string x.sl, .string x.ow, .string x.nx] ++ hce M)[k * 6 + 1]? = _ ∧ ([Value.int .i64 x.pl, .string x.ts, .int .i64 (x.rd : Int), .string x.sl, .string x.ow, .string x.nx] ++ hce M)[k * 6 + 2]? = _ ∧ ([Value.int .i64 x.pl, .string x.ts, .int .i64 (x.rd : Int), .string x.sl, .string x.ow, .string x.nx] ++ hce M)[k * 6 + 3]? = _ ∧ ([Value.int .i64 x.pl, .string x.ts, .int .i64 (x.rd : Int), .string x.sl, .string x.ow, .string x.nx] ++ hce M)[k * 6 + 4]? = _ ∧ ([Value.int .i64 x.pl, .string x.ts, .int .i64 (x.rd : Int), .string x.sl, .string x.ow, .string x.nx] ++ hce M)[k * 6 + 5]? = _
    cases k with
    | zero => exact ⟨rfl, rfl, rfl, rfl, rfl, rfl⟩
    | succ k =>
      obtain ⟨a, b, c, d, e, f⟩ := ih k (by simpa using h)
      rw [show (k + 1) * 6 = k * 6 + 6 by omega]
      exact ⟨by simpa using a, by simpa [Nat.add_right_comm] using b, by simpa [Nat.add_right_comm] using c, by simpa [Nat.add_right_comm] using d, by simpa [Nat.add_right_comm] using e, by simpa [Nat.add_right_comm] using f⟩
theorem hce_app (M N : List Hq) : hce (M ++ N) = hce M ++ hce N := by unfold hce; rw [List.flatMap_append]
theorem infoHq : (Tryz.prog.info? 122).map (fun i => (i.zero, i.size, i.bytes)) = some (some (.agg #[.int .i64 0, .string .empty, .int .i64 0, .string .empty, .string .empty, .string .empty]), 6, 80) := by kernel_rfl
theorem hsAt_own {w : World} {base : Nat} {p : Option Addr} {c : Nat} {M : List Hq} (h : w.ownsRow base 122 6 (.slice p M.length c) M.length (hce M)) : HsAt w p M := fun k hk => by
  have h' := h
  obtain ⟨_, (⟨h1, h2⟩ | ⟨g, cap, cur, h1, hb, hg, hn', hcap, _⟩)⟩ := h'
  · omega
  · injection h1 with h1 h2 h3
    subst h1
    obtain ⟨e0, e1, e2, e3, e4, e5⟩ := hce_get M k hk
    refine ⟨g, 0, rfl, (Array.getElem?_eq_some_iff.1 hg).1, ?_, ?_, ?_, ?_, ?_, ?_⟩
    · rw [Nat.zero_add, h.cellAt (k * 6) (by omega), e0]
    · rw [Nat.zero_add, h.cellAt (k * 6 + 1) (by omega), e1]
    · rw [Nat.zero_add, h.cellAt (k * 6 + 2) (by omega), e2]
    · rw [Nat.zero_add, h.cellAt (k * 6 + 3) (by omega), e3]
    · rw [Nat.zero_add, h.cellAt (k * 6 + 4) (by omega), e4]
    · rw [Nat.zero_add, h.cellAt (k * 6 + 5) (by omega), e5]
/-- an NSEC3 that may be used -/
def hqOf (apex : ByteArray) (i : Nat) (r : Rn) : List Hq := if r.t = 50 ∧ rgB apex r = true ∧ ok3 apex r.o r.d = true then [⟨(i : Int), ts3 r.d, rd3 r.d, sl3 r.d, ohB apex r.o, nx3 r.d⟩] else []
/-- those of a list -/
def hqL (apex : ByteArray) (L : List Rn) : Nat → List Hq
  | 0 => []
  | k + 1 => hqL apex L k ++ (match L[k]? with | some r => hqOf apex k r | none => [])
theorem hqL_succ {apex : ByteArray} {L : List Rn} {k : Nat} (hk : k < L.length) : hqL apex L (k + 1) = hqL apex L k ++ hqOf apex k L[k] := by
  rw [hqL, List.getElem?_eq_getElem hk]
theorem hqOf_len (apex : ByteArray) (i : Nat) (r : Rn) : (hqOf apex i r).length ≤ 1 := by unfold hqOf; split <;> simp
theorem hqL_len (apex : ByteArray) (L : List Rn) : ∀ k, (hqL apex L k).length ≤ k
  | 0 => Nat.le_refl _
  | k + 1 => by
    have h1 := hqL_len apex L k
    rw [hqL, List.length_append]
    cases h : L[k]? with
    | none => simp; omega
    | some r => have h2 := hqOf_len apex k r; simp only; omega
/-- what lies in memory along a round of nsec3sOf -/
def Lh (w wc : World) (B : Nat) (rc : Array Value) (p : Option Addr) (L : List Rn) (v : Value) (M : List Hq) : Prop := Bx wc B rc 36 ∧ wc.ownsRow w.heap.size 122 6 v M.length (hce M) ∧ Below w.heap.size w wc ∧ RsAt wc p L
theorem Lh.step {w wc wd : World} {B : Nat} {rc : Array Value} {p : Option Addr} {L : List Rn} {v : Value} {M : List Hq} (h : Lh w wc B rc p L v M) (hB : Below wc.heap.size wc wd) : Lh w wd B rc p L v M := ⟨h.1.below hB h.1.lt, ownsRow_below h.2.1 hB, bstep h.2.2.1 hB h.2.2.1.size, rsAt_below7 h.2.2.2 hB⟩
theorem Lh.start {w wr : World} {rc : Array Value} {p : Option Addr} {L : List Rn} {v : Value} {M : List Hq} (ho : wr.ownsRow w.heap.size 122 6 v M.length (hce M)) (hB : Below w.heap.size w wr) (hat : RsAt wr p L) : Lh w (wr.alloc (.cells rc 36)) wr.heap.size rc p L v M := by
  have h1 : Below wr.heap.size wr (wr.alloc (.cells rc 36)) := (Below.refl _ _).alloc (Nat.le_refl _) _
  exact ⟨World.alloc_heap_new wr _, ownsRow_below ho h1, bstep hB h1 hB.size, rsAt_below7 hat h1⟩
theorem Lh.cells {w wc : World} {B : Nat} {o d : ByteArray} {t c l : Int} {p : Option Addr} {L : List Rn} {v : Value} {M : List Hq} (h : Lh w wc B #[.string o, .int .i64 t, .int .i64 c, .int .i64 l, .string d] p L v M) : wc.cell? ⟨B, 0, none⟩ = some (.string o) ∧ wc.cell? ⟨B, 1, none⟩ = some (.int .i64 t) ∧ wc.cell? ⟨B, 2, none⟩ = some (.int .i64 c) ∧ wc.cell? ⟨B, 3, none⟩ = some (.int .i64 l) ∧ wc.cell? ⟨B, 4, none⟩ = some (.string d) := ⟨h.1.cell rfl, h.1.cell rfl, h.1.cell rfl, h.1.cell rfl, h.1.cell rfl⟩
set_option maxRecDepth 100000 in
set_option maxHeartbeats 4000000 in
/-- proof.nsec3sOf -/
theorem nsec3sOf_any (apex : ByteArray) (L : List Rn) (p : Option Addr) (cap : Nat) (w : World) (hL : L.length ≤ 1048576) (ha : isN apex = true) (hat : RsAt w p L) (hz : ∀ r ∈ L, r.o.size ≤ 1048576 ∧ r.d.size ≤ 9223372036854775807) :
    Calls Tryz.prog 54 #[.string apex, .slice p L.length cap] w fun r w' => (∃ v, r = .returned v ∧ w'.ownsRow w.heap.size 122 6 v (hqL apex L L.length).length (hce (hqL apex L L.length))) ∧ Below w.heap.size w w' := by
  obtain ⟨i0, hi0, hz0, hz1, hz2⟩ := info_parts infoHq
  have hAZ : apex.size ≤ 1048576 := by have := ((isN_iff _).1 ha).1; omega
  have HAT := hide' hat
  have HZ := hide' hz
  clear hat hz
  go_enter Tryz.func54, Tryz.ntmps54
  go_wp2_with fail
  go_loopw [5, 12] (fun vl iv wr => ∃ k : Nat, iv = .int .i64 (k : Int) ∧ k ≤ L.length ∧ Hid (wr.ownsRow w.heap.size 122 6 vl (hqL apex L k).length (hce (hqL apex L k))) ∧ Hid (Below w.heap.size w wr)) (fun _ iv _ => L.length - (intOf iv).toNat)
  case atStart => exact ⟨0, rfl, Nat.zero_le _, World.ownsRow_nil _ _ _ _, Below.refl _ _⟩
  case round =>
    obtain ⟨k, rfl, hk, HO, HB⟩ := hrel
    by_cases hlt : k < L.length
    · have hki : (k : Int) < (L.length : Int) := by omega
      have hM := hqL_len apex L k
      obtain ⟨g, off, hpp, hg, e0, e1, e2, e3, e4⟩ := (rsAt_below7 HAT.out HB.out) k hlt
      obtain ⟨z1, z2⟩ := HZ.out _ (List.getElem_mem hlt)
      have HSU := hide' (hqL_succ (apex := apex) hlt)
      obtain ⟨x, hx⟩ : ∃ x, L[k] = x := ⟨_, rfl⟩
      rw [hx] at e0 e1 e2 e3 e4 z1 z2 HSU
      have HIR := hide' (fun W => isRight_any apex x W hAZ z1 z2)
      clear hx
      obtain ⟨o, t, c, l, d⟩ := x
      unfold recA at HIR
      dsimp only at e0 e1 e2 e3 e4 z1 z2 HIR
      generalize hqL apex L k = M at *
      have S1 := hide' (Lh.start (rc := #[.string o, .int .i64 t, .int .i64 c, .int .i64 l, .string d]) HO.out HB.out (rsAt_below7 HAT.out HB.out))
      subst hpp
      obtain ⟨W1, hW1⟩ : ∃ W1, wr.alloc (.cells #[.string o, .int .i64 t, .int .i64 c, .int .i64 l, .string d] 36) = W1 := ⟨_, rfl⟩
      rw [hW1] at S1
      obtain ⟨c0, c1, c2, c3, c4⟩ := S1.out.cells
      by_cases ht : t = 50
      rotate_left
      · have HN : Hid (hqL apex L (k + 1) = M) := by unfold Hid; rw [HSU.out]; unfold hqOf; rw [if_neg (fun h => ht h.1)]; simp
        go_wp2_with fail
        refine ⟨⟨k + 1, by go_num, by omega, ?_, S1.out.2.2.1⟩, by simp [intOf]; omega⟩
        rw [HN.out]
        exact S1.out.2.1
      subst ht
      cases hr : rgB apex ⟨o, 50, c, l, d⟩ with
      | false =>
        have HN : Hid (hqL apex L (k + 1) = M) := by unfold Hid; rw [HSU.out]; unfold hqOf; rw [if_neg (fun h => by rw [hr] at h; cases h.2.1)]; simp
        rw [hr] at HIR
        clear hr
        go_wp2_with (first
          | (go_at_call 68; refine (HIR.out _).mono ?_; rintro r w2 ⟨rfl, hB⟩; have S2 := hide' (S1.out.step hB); clear hB))
        refine ⟨⟨k + 1, by go_num, by omega, ?_, S2.out.2.2.1⟩, by simp [intOf]; omega⟩
        rw [HN.out]
        exact S2.out.2.1
      | true =>
        have hrr := hr
        unfold rgB at hr
        rw [Bool.and_eq_true] at hr
        obtain ⟨m1, m2, m3, m4, -, -⟩ := nsec3_form (zon_err hr.2).2
        dsimp only at m1 m2 m3 m4
        rw [hrr] at HIR
        have HRN := hide' (fun W => readNsec3_any apex o d 50 c l W ha (zon_err hr.2).1 m1 m2 m4)
        cases hok : ok3 apex o d with
        | false =>
          have HN : Hid (hqL apex L (k + 1) = M) := by unfold Hid; rw [HSU.out]; unfold hqOf; rw [if_neg (fun h => by have h2 := h.2.2; dsimp only at h2; rw [hok] at h2; cases h2)]; simp
          rw [hok] at HRN
          generalize ts3 d = ts at *
          generalize rd3 d = rd at *
          generalize sl3 d = sl at *
          generalize nx3 d = nx at *
          generalize ohB apex o = ow at *
          clear hr hrr m1 m2 m3 m4 hok
          go_wp2_with (first
            | (go_at_call 68; refine (HIR.out _).mono ?_; rintro r w2 ⟨rfl, hB⟩; have S2 := hide' (S1.out.step hB); clear hB c0 c1 c2 c3 c4; obtain ⟨c0, c1, c2, c3, c4⟩ := S2.out.cells)
            | (go_at_call 70; refine (HRN.out _).mono ?_; rintro r w3 ⟨rfl, hB⟩; have S3 := hide' (S2.out.step hB); clear hB))
          have S4 := hide' (S3.out.step ((Below.refl _ _).alloc (Nat.le_refl _) (.cells #[.int .i64 0, .string ts, .int .i64 (rd : Int), .string sl, .string ow, .string nx] 122)))
          refine ⟨⟨k + 1, by go_num, by omega, ?_, S4.out.2.2.1⟩, by simp [intOf]; omega⟩
          rw [HN.out]
          exact S4.out.2.1
        | true =>
          have HN : Hid (hqL apex L (k + 1) = M ++ [⟨(k : Int), ts3 d, rd3 d, sl3 d, ohB apex o, nx3 d⟩]) := by unfold Hid; rw [HSU.out]; unfold hqOf; rw [if_pos ⟨rfl, hrr, hok⟩]
          rw [hok] at HRN
          generalize ts3 d = ts at *
          generalize rd3 d = rd at *
          generalize sl3 d = sl at *
          generalize nx3 d = nx at *
          generalize ohB apex o = ow at *
          clear hr hrr m1 m2 m3 m4 hok
          have hn1 : M.length + 1 ≤ maxLen := by unfold maxLen; omega
          have hb1 : (M.length + 1) * 80 ≤ 140737488355328 := by omega
          go_wp2_with (first
            | (go_at_call 68; refine (HIR.out _).mono ?_; rintro r w2 ⟨rfl, hB⟩; have S2 := hide' (S1.out.step hB); clear hB c0 c1 c2 c3 c4; obtain ⟨c0, c1, c2, c3, c4⟩ := S2.out.cells)
            | (go_at_call 70; refine (HRN.out _).mono ?_; rintro r w3 ⟨rfl, hB⟩; have S3 := hide' (S2.out.step hB); clear hB; have S4 := hide' (S3.out.step ((Below.refl _ _).alloc (Nat.le_refl _) (.cells #[.int .i64 (k : Int), .string ts, .int .i64 (rd : Int), .string sl, .string ow, .string nx] 122))); obtain ⟨W4, hW4⟩ : ∃ W4, World.alloc w3 (.cells #[.int .i64 (k : Int), .string ts, .int .i64 (rd : Int), .string sl, .string ow, .string nx] 122) = W4 := ⟨_, rfl⟩; have HBX : Bx W4 w3.heap.size #[.int .i64 (k : Int), .string ts, .int .i64 (rd : Int), .string sl, .string ow, .string nx] 122 := (by rw [← hW4]; exact World.alloc_heap_new w3 _); rw [hW4] at S4; have d0 := HBX.cell (j := 0) rfl; have d1 := HBX.cell (j := 1) rfl; have d2 := HBX.cell (j := 2) rfl; have d3 := HBX.cell (j := 3) rfl; have d4 := HBX.cell (j := 4) rfl; have d5 := HBX.cell (j := 5) rfl; have hsz4 : w.heap.size ≤ W4.heap.size := S4.out.2.2.1.size; clear HBX)
            | (at_builtin; refine wpList_append_own _ rfl _ _ 100 rfl w.heap.size 122 i0 _ 6 80 Tryz.underlying100 hi0 hz0 hz1 hz2 rfl (by decide) _ _ _ rfl (S4.out.2.1.alloc _) ⟨W4.heap.size, 0, none⟩ 1 1 [.int .i64 (k : Int), .string ts, .int .i64 (rd : Int), .string sl, .string ow, .string nx] rfl rfl (World.news_of_block (cs := #[.int .i64 (k : Int), .string ts, .int .i64 (rd : Int), .string sl, .string ow, .string nx]) (t := 122) (fr := (0, 0)) (heap_alloc_new W4 _)) (by simp [Value.oneCell']) hn1 hb1 (by simp; omega) ?_; intro v5 w5 hown5 hgrow _))
          have B4 := S4.out.2.2.1.alloc hsz4 (.cells #[.int .i64 (k : Int), .string ts, .int .i64 (rd : Int), .string sl, .string ow, .string nx] 122)
          have B5 := hide' (B4.grown hgrow B4.size (fun q e => ownBlock_le S4.out.2.1 e))
          refine ⟨⟨k + 1, by go_num, by omega, ?_, B5⟩, by simp [intOf]; omega⟩
          unfold Hid
          rw [HN.out, hce_app, List.length_append]
          exact hown5
    · obtain rfl : k = L.length := by omega
      go_wp2_with fail
      go_ret
      exact ⟨⟨_, rfl, HO.out⟩, HB.out⟩
end Go.Proofs.YtgekfhghambacaaGreat

/-
  Proofs: rows of NSEC3: what is found in them, what goes. (The verifier's own text.)
-/
namespace Go.Proofs.YtgekfhghambacaaGreat
set_option linter.unusedVariables false
set_option linter.unusedSimpArgs false
open Go.RowKit Go.Shelf Go.Maps Go.Proofs.YtgekfhghambacaaGreat.Nm

/-- the place of the first that does -/
def Fh (P : Hq → Bool) (L : List Hq) (i : Int) : Prop := (i = -1 ∧ L.any P = false) ∨ ∃ k : Nat, ∃ hk : k < L.length, i = (k : Int) ∧ P L[k] = true ∧ L.any P = true ∧ ∀ j (hj : j < L.length), j < k → P L[j] = false
set_option maxRecDepth 100000 in
set_option maxHeartbeats 1000000 in
/-- slices.IndexFunc, with proof.hashing$1 -/
theorem indexH_other (L : List Hq) (p : Option Addr) (cap : Nat) (cv0 : Value) (P : Hq → Bool) (w : World) (hL : L.length ≤ 4294967296) (hat : HsAt w p L)
    (hf : ∀ (k : Nat) (hk : k < L.length) (W : World), Below w.heap.size w W → Calls Tryz.prog 86 #[hA L[k], cv0] W fun r w' => r = .returned (.bool (P L[k])) ∧ Below W.heap.size W w') :
    Calls Tryz.prog 92 #[.slice p L.length cap, .func (Fn.func 86) #[] #[cv0]] w fun r w' => (∃ i : Int, r = .returned (.int .i64 i) ∧ Fh P L i) ∧ Below w.heap.size w w' := by
  have HF := hide' hf
  have HA := hide' hat
  clear hf hat
  go_enter Tryz.func92, Tryz.ntmps92
  go_wp2_with fail
  go_loopw [8] (fun i wr => ∃ k : Nat, i = .int .i64 (k : Int) ∧ k ≤ L.length ∧ Hid (∀ j (hj : j < L.length), j < k → P L[j] = false) ∧ Below w.heap.size w wr) (fun i _ => L.length - (intOf i).toNat)
  case atStart => exact ⟨0, rfl, Nat.zero_le _, (fun j _ h => absurd h (Nat.not_lt_zero _)), Below.refl _ _⟩
  case round =>
    obtain ⟨k, rfl, hk, HN, hBr⟩ := hrel
    have HBr := hide' hBr
    by_cases hlt : k < L.length
    · obtain ⟨g, off, rfl, hg, e0, e1, e2, e3, e4, e5⟩ := HA.out.below hBr k hlt
      have HC := hide' (HF.out k hlt wr hBr)
      obtain ⟨x, hx⟩ : ∃ x, L[k] = x := ⟨_, rfl⟩
      have HX := hide' hx
      rw [hx] at HC e0 e1 e2 e3 e4 e5
      clear hx hBr
      cases hp : P x with
      | true =>
        rw [hp] at HC
        have HP := hide' hp
        clear hp
        go_wp2_with (go_at_call 86; refine HC.out.mono ?_; rintro r w2 ⟨rfl, hB2⟩)
        go_ret
        refine ⟨⟨(k : Int), rfl, .inr ⟨k, hlt, rfl, by rw [HX.out]; exact HP.out, ?_, HN.out⟩⟩, bstep HBr.out hB2 HBr.out.size⟩
        rw [List.any_eq_true]
        exact ⟨x, HX.out ▸ List.getElem_mem hlt, HP.out⟩
      | false =>
        rw [hp] at HC
        have HP := hide' hp
        clear hp
        go_wp2_with (go_at_call 86; refine HC.out.mono ?_; rintro r w2 ⟨rfl, hB2⟩)
        refine ⟨⟨k + 1, by go_num, by omega, ?_, bstep HBr.out hB2 HBr.out.size⟩, by simp [intOf]; omega⟩
        intro j hj hjk
        rcases Nat.lt_or_ge j k with h | h
        · exact HN.out j hj h
        · obtain rfl : j = k := by omega
          rw [HX.out]; exact HP.out
    · obtain rfl : k = L.length := by omega
      go_wp2_with fail
      go_ret
      refine ⟨⟨-1, rfl, .inl ⟨rfl, ?_⟩⟩, HBr.out⟩
      rw [List.any_eq_false]
      intro x hx
      obtain ⟨j, hj, rfl⟩ := List.getElem_of_mem hx
      rw [HN.out j hj hj]; simp
set_option maxRecDepth 100000 in
set_option maxHeartbeats 1000000 in
/-- slices.IndexFunc, with (proof.nsec3s).covering$1 -/
theorem indexH_covers (L : List Hq) (p : Option Addr) (cap : Nat) (cv0 : Value) (P : Hq → Bool) (w : World) (hL : L.length ≤ 4294967296) (hat : HsAt w p L)
    (hf : ∀ (k : Nat) (hk : k < L.length) (W : World), Below w.heap.size w W → Calls Tryz.prog 166 #[hA L[k], cv0] W fun r w' => r = .returned (.bool (P L[k])) ∧ Below W.heap.size W w') :
    Calls Tryz.prog 92 #[.slice p L.length cap, .func (Fn.func 166) #[] #[cv0]] w fun r w' => (∃ i : Int, r = .returned (.int .i64 i) ∧ Fh P L i) ∧ Below w.heap.size w w' := by
  have HF := hide' hf
  have HA := hide' hat
  clear hf hat
  go_enter Tryz.func92, Tryz.ntmps92
  go_wp2_with fail
  go_loopw [8] (fun i wr => ∃ k : Nat, i = .int .i64 (k : Int) ∧ k ≤ L.length ∧ Hid (∀ j (hj : j < L.length), j < k → P L[j] = false) ∧ Below w.heap.size w wr) (fun i _ => L.length - (intOf i).toNat)
  case atStart => exact ⟨0, rfl, Nat.zero_le _, (fun j _ h => absurd h (Nat.not_lt_zero _)), Below.refl _ _⟩
  case round =>
    obtain ⟨k, rfl, hk, HN, hBr⟩ := hrel
    have HBr := hide' hBr
    by_cases hlt : k < L.length
    · obtain ⟨g, off, rfl, hg, e0, e1, e2, e3, e4, e5⟩ := HA.out.below hBr k hlt
      have HC := hide' (HF.out k hlt wr hBr)
      obtain ⟨x, hx⟩ : ∃ x, L[k] = x := ⟨_, rfl⟩
      have HX := hide' hx
      rw [hx] at HC e0 e1 e2 e3 e4 e5
      clear hx hBr
      cases hp : P x with
      | true =>
        rw [hp] at HC
        have HP := hide' hp
        clear hp
        go_wp2_with (go_at_call 166; refine HC.out.mono ?_; rintro r w2 ⟨rfl, hB2⟩)
        go_ret
        refine ⟨⟨(k : Int), rfl, .inr ⟨k, hlt, rfl, by rw [HX.out]; exact HP.out, ?_, HN.out⟩⟩, bstep HBr.out hB2 HBr.out.size⟩
        rw [List.any_eq_true]
        exact ⟨x, HX.out ▸ List.getElem_mem hlt, HP.out⟩
      | false =>
        rw [hp] at HC
        have HP := hide' hp
        clear hp
        go_wp2_with (go_at_call 166; refine HC.out.mono ?_; rintro r w2 ⟨rfl, hB2⟩)
        refine ⟨⟨k + 1, by go_num, by omega, ?_, bstep HBr.out hB2 HBr.out.size⟩, by simp [intOf]; omega⟩
        intro j hj hjk
        rcases Nat.lt_or_ge j k with h | h
        · exact HN.out j hj h
        · obtain rfl : j = k := by omega
          rw [HX.out]; exact HP.out
    · obtain rfl : k = L.length := by omega
      go_wp2_with fail
      go_ret
      refine ⟨⟨-1, rfl, .inl ⟨rfl, ?_⟩⟩, HBr.out⟩
      rw [List.any_eq_false]
      intro x hx
      obtain ⟨j, hj, rfl⟩ := List.getElem_of_mem hx
      rw [HN.out j hj hj]; simp
set_option maxRecDepth 100000 in
set_option maxHeartbeats 1000000 in
/-- slices.IndexFunc, with (proof.nsec3s).standing$1 -/
theorem indexH_stands (L : List Hq) (p : Option Addr) (cap : Nat) (cv0 : Value) (P : Hq → Bool) (w : World) (hL : L.length ≤ 4294967296) (hat : HsAt w p L)
    (hf : ∀ (k : Nat) (hk : k < L.length) (W : World), Below w.heap.size w W → Calls Tryz.prog 169 #[hA L[k], cv0] W fun r w' => r = .returned (.bool (P L[k])) ∧ Below W.heap.size W w') :
    Calls Tryz.prog 92 #[.slice p L.length cap, .func (Fn.func 169) #[] #[cv0]] w fun r w' => (∃ i : Int, r = .returned (.int .i64 i) ∧ Fh P L i) ∧ Below w.heap.size w w' := by
  have HF := hide' hf
  have HA := hide' hat
  clear hf hat
  go_enter Tryz.func92, Tryz.ntmps92
  go_wp2_with fail
  go_loopw [8] (fun i wr => ∃ k : Nat, i = .int .i64 (k : Int) ∧ k ≤ L.length ∧ Hid (∀ j (hj : j < L.length), j < k → P L[j] = false) ∧ Below w.heap.size w wr) (fun i _ => L.length - (intOf i).toNat)
  case atStart => exact ⟨0, rfl, Nat.zero_le _, (fun j _ h => absurd h (Nat.not_lt_zero _)), Below.refl _ _⟩
  case round =>
    obtain ⟨k, rfl, hk, HN, hBr⟩ := hrel
    have HBr := hide' hBr
    by_cases hlt : k < L.length
    · obtain ⟨g, off, rfl, hg, e0, e1, e2, e3, e4, e5⟩ := HA.out.below hBr k hlt
      have HC := hide' (HF.out k hlt wr hBr)
      obtain ⟨x, hx⟩ : ∃ x, L[k] = x := ⟨_, rfl⟩
      have HX := hide' hx
      rw [hx] at HC e0 e1 e2 e3 e4 e5
      clear hx hBr
      cases hp : P x with
      | true =>
        rw [hp] at HC
        have HP := hide' hp
        clear hp
        go_wp2_with (go_at_call 169; refine HC.out.mono ?_; rintro r w2 ⟨rfl, hB2⟩)
        go_ret
        refine ⟨⟨(k : Int), rfl, .inr ⟨k, hlt, rfl, by rw [HX.out]; exact HP.out, ?_, HN.out⟩⟩, bstep HBr.out hB2 HBr.out.size⟩
        rw [List.any_eq_true]
        exact ⟨x, HX.out ▸ List.getElem_mem hlt, HP.out⟩
      | false =>
        rw [hp] at HC
        have HP := hide' hp
        clear hp
        go_wp2_with (go_at_call 169; refine HC.out.mono ?_; rintro r w2 ⟨rfl, hB2⟩)
        refine ⟨⟨k + 1, by go_num, by omega, ?_, bstep HBr.out hB2 HBr.out.size⟩, by simp [intOf]; omega⟩
        intro j hj hjk
        rcases Nat.lt_or_ge j k with h | h
        · exact HN.out j hj h
        · obtain rfl : j = k := by omega
          rw [HX.out]; exact HP.out
    · obtain rfl : k = L.length := by omega
      go_wp2_with fail
      go_ret
      refine ⟨⟨-1, rfl, .inl ⟨rfl, ?_⟩⟩, HBr.out⟩
      rw [List.any_eq_false]
      intro x hx
      obtain ⟨j, hj, rfl⟩ := List.getElem_of_mem hx
      rw [HN.out j hj hj]; simp
end Go.Proofs.YtgekfhghambacaaGreat

/-
  Proofs: rows of NSEC3 of which some go. (The verifier's own text.)
-/
namespace Go.Proofs.YtgekfhghambacaaGreat
set_option linter.unusedVariables false
set_option linter.unusedSimpArgs false
open Go.RowKit Go.Shelf Go.Maps Go.Proofs.YtgekfhghambacaaGreat.Nm

/-- an NSEC3 as cells -/
def hen (x : Hq) : List Value := [.int .i64 x.pl, .string x.ts, .int .i64 (x.rd : Int), .string x.sl, .string x.ow, .string x.nx]
/-- a block of NSEC3: those of L, then whatever stands behind -/
def Hb (w : World) (g : Nat) (L : List Hq) (rest : List Value) : Prop := Bx w g (hce L ++ rest).toArray 122
theorem hce_one (L : List Hq) : ∀ u ∈ hce L, u.oneCell' = true := by
  intro u hu
  obtain ⟨x, _, hx⟩ := List.mem_flatMap.1 hu
  simp at hx
  rcases hx with rfl | rfl | rfl | rfl | rfl | rfl <;> rfl
theorem Hb.cells {w : World} {g : Nat} {L : List Hq} {rest : List Value} (h : Hb w g L rest) {j : Nat} (hj : j < L.length) : w.cell? ⟨g, j * 6, none⟩ = some (.int .i64 L[j].pl) ∧ w.cell? ⟨g, j * 6 + 1, none⟩ = some (.string L[j].ts) ∧ w.cell? ⟨g, j * 6 + 2, none⟩ = some (.int .i64 (L[j].rd : Int)) ∧ w.cell? ⟨g, j * 6 + 3, none⟩ = some (.string L[j].sl) ∧ w.cell? ⟨g, j * 6 + 4, none⟩ = some (.string L[j].ow) ∧ w.cell? ⟨g, j * 6 + 5, none⟩ = some (.string L[j].nx) := by
  obtain ⟨h0, h1, h2, h3, h4, h5⟩ := hce_get L j hj
  have hl := hce_len L
  have hx : ∀ (i : Nat) (v : Value), i < L.length * 6 → (hce L)[i]? = some v → (hce L ++ rest).toArray[i]? = some v := fun i v hi hv => by
    rw [List.getElem?_toArray, List.getElem?_append_left (by omega), hv]
  exact ⟨h.cell (hx _ _ (by omega) h0), h.cell (hx _ _ (by omega) h1), h.cell (hx _ _ (by omega) h2), h.cell (hx _ _ (by omega) h3), h.cell (hx _ _ (by omega) h4), h.cell (hx _ _ (by omega) h5)⟩
/-- six cells of a block are set -/
def setH (w : World) (g o : Nat) (r : Hq) : World := ((((((w.setCell ⟨g, o, none⟩ (.int .i64 r.pl)).setCell ⟨g, o + 1, none⟩ (.string r.ts)).setCell ⟨g, o + 2, none⟩ (.int .i64 (r.rd : Int))).setCell ⟨g, o + 3, none⟩ (.string r.sl)).setCell ⟨g, o + 4, none⟩ (.string r.ow)).setCell ⟨g, o + 5, none⟩ (.string r.nx))
theorem setH_cells (w : World) (g o : Nat) (r : Hq) : setH w g o r = w.setCells g o (hen r) := rfl
theorem listH_split {L : List Hq} {j : Nat} (hj : j < L.length) : L = L.take j ++ L[j] :: L.drop (j + 1) := by
  rw [← List.drop_eq_getElem_cons hj, List.take_append_drop]
theorem Hb.put {w : World} {g : Nat} {L : List Hq} {rest : List Value} (h : Hb w g L rest) {j : Nat} (hj : j < L.length) (r : Hq) : Hb (setH w g (j * 6) r) g (L.set j r) rest := by
  have e1 : hce L ++ rest = hce (L.take j) ++ hen L[j] ++ (hce (L.drop (j + 1)) ++ rest) := by
    have e : hce L = hce (L.take j) ++ (hen L[j] ++ hce (L.drop (j + 1))) := by
      have e0 : hce L = hce (L.take j ++ L[j] :: L.drop (j + 1)) := congrArg hce (listH_split hj)
      rw [e0, hce_app]
      rfl
    rw [e]; simp
  have e2 : hce (L.set j r) ++ rest = hce (L.take j) ++ hen r ++ (hce (L.drop (j + 1)) ++ rest) := by
    have e : L.set j r = L.take j ++ r :: L.drop (j + 1) := by rw [List.set_eq_take_append_cons_drop, if_pos hj]
    have e3 : hce (r :: L.drop (j + 1)) = hen r ++ hce (L.drop (j + 1)) := rfl
    rw [e, hce_app, e3]
    simp
  have hl : (hce (L.take j)).length = j * 6 := by rw [hce_len, List.length_take]; omega
  unfold Hb at h ⊢
  rw [e1] at h
  have := bx_setCells (hen r) (hce (L.take j)) (hen L[j]) (hce (L.drop (j + 1)) ++ rest) rfl w h
  rw [hl] at this
  rw [e2, setH_cells]
  exact this
/-- an NSEC3 that is none -/
def zH : Hq := ⟨0, .empty, 0, .empty, .empty, .empty⟩
theorem zeroH_cells (n : Nat) : (Builtin.zeroCells (Value.agg (hen zH).toArray).cells n).toList = hce (List.replicate n zH) := by
  have hz : (Value.agg (hen zH).toArray).cells = (hen zH).toArray := rfl
  rw [hz]
  apply List.ext_getElem?
  intro i
  by_cases hi : i < n * 6
  · have hlen : (hce (List.replicate n zH)).length = n * 6 := by rw [hce_len, List.length_replicate]
    have hk : i / 6 < (List.replicate n zH).length := by rw [List.length_replicate]; omega
    obtain ⟨h0, h1, h2, h3, h4, h5⟩ := hce_get (List.replicate n zH) (i / 6) hk
    have hg : (List.replicate n zH)[i / 6] = zH := by simp
    rw [hg] at h0 h1 h2 h3 h4 h5
    have hL : (Builtin.zeroCells (hen zH).toArray n).toList[i]? = some ((hen zH).toArray[i % 6]!) := by
      unfold Builtin.zeroCells
      rw [show (hen zH).toArray.size = 6 from rfl]
      simp [hi]
    rw [hL]
    have : i % 6 = 0 ∨ i % 6 = 1 ∨ i % 6 = 2 ∨ i % 6 = 3 ∨ i % 6 = 4 ∨ i % 6 = 5 := by omega
    rcases this with e | e | e | e | e | e
    · rw [e, show i = i / 6 * 6 by omega, h0]; rfl
    · rw [e, show i = i / 6 * 6 + 1 by omega, h1]; rfl
    · rw [e, show i = i / 6 * 6 + 2 by omega, h2]; rfl
    · rw [e, show i = i / 6 * 6 + 3 by omega, h3]; rfl
    · rw [e, show i = i / 6 * 6 + 4 by omega, h4]; rfl
    · rw [e, show i = i / 6 * 6 + 5 by omega, h5]; rfl
  · have hlen : (hce (List.replicate n zH)).length = n * 6 := by rw [hce_len, List.length_replicate]
    have hl2 : (Builtin.zeroCells (hen zH).toArray n).toList.length = n * 6 := by
      unfold Builtin.zeroCells
      rw [show (hen zH).toArray.size = 6 from rfl]
      simp
    rw [List.getElem?_eq_none (by omega), List.getElem?_eq_none (by omega)]
/-- 'clear(s)' of NSEC3 -/
theorem run_clearH (w : World) (hv : ∀ w : World, (zeroValue 122).run Tryz.prog w = .ok (.agg (hen zH).toArray) w) (g : Nat) (A B : List Hq) (rest : List Value) (c ty : Nat) (hB : 0 < B.length) (h : Hb w g (A ++ B) rest) :
    ∃ w2, (Builtin.clear_ #[100] ty #[.slice (some ⟨g, A.length * 6, none⟩) B.length c]).run Tryz.prog w = .ok (.tuple #[]) w2 ∧ Hb w2 g (A ++ List.replicate B.length zH) rest ∧ w.grownBy w2 (some g) := by
  refine ⟨w.setCells g (A.length * 6) (hce (List.replicate B.length zH)), ?_, ?_, grown_setCells g _ _ w⟩
  · have hlen : (hce (List.replicate B.length zH)).length = B.length * 6 := by rw [hce_len, List.length_replicate]
    have hst := run_storeCells_cells (P := Tryz.prog) g (A.length * 6) (hce (List.replicate B.length zH)) 0 w (fun j hj => by
      have hh : (hce (A ++ B) ++ rest).toArray[A.length * 6 + 0 + j]? = some ((hce (A ++ B) ++ rest)[A.length * 6 + 0 + j]'(by rw [List.length_append, hce_len, List.length_append]; omega)) := by
        rw [List.getElem?_toArray, List.getElem?_eq_getElem]
      rw [h.cell hh]; rfl) (fun j hj => h.free _) (hce_one _)
    simp only [Nat.add_zero] at hst
    obtain ⟨m, hm⟩ : ∃ m, B.length = m + 1 := ⟨B.length - 1, by omega⟩
    rw [hm] at hst ⊢
    simp [Builtin.clear_, run_underlying Tryz.underlying100, hv, zeroH_cells, hst]
  · have hl : (hce A).length = A.length * 6 := hce_len A
    unfold Hb at h ⊢
    rw [hce_app] at h ⊢
    have := bx_setCells (hce (List.replicate B.length zH)) (hce A) (hce B) rest (by rw [hce_len, hce_len, List.length_replicate]) w h
    rw [hl] at this
    exact this
theorem hsAt_block {w : World} {g : Nat} {A B : List Hq} {rest : List Value} (h : Hb w g (A ++ B) rest) : HsAt w (some ⟨g, A.length * 6, none⟩) B := fun k hk => by
  obtain ⟨h0, h1, h2, h3, h4, h5⟩ := h.cells (j := A.length + k) (by rw [List.length_append]; omega)
  have e : (A ++ B)[A.length + k]'(by rw [List.length_append]; omega) = B[k] := by
    rw [List.getElem_append_right (by omega)]; congr 1; omega
  rw [e] at h0 h1 h2 h3 h4 h5
  have e5 : (A.length + k) * 6 = A.length * 6 + k * 6 := by omega
  rw [e5] at h0 h1 h2 h3 h4 h5
  exact ⟨g, A.length * 6, rfl, h.lt, h0, h1, h2, h3, h4, h5⟩
theorem run_fromH (g len cap i : Nat) (hi : i ≤ len) (hc : len ≤ cap) (hne : i < cap) (W : World) : (Instr.slice 100 (.slice (some ⟨g, 0, none⟩) len cap) (some (.int .i64 (i : Int))) none none).run Tryz.prog W = .ok (.slice (some ⟨g, i * 6, none⟩) (len - i) (cap - i)) W := by
  have ht' : Tryz.prog.underlying 100 = some (.slice (Tryz.prog.elem 100)) := by simp [Program.elem, Tryz.underlying100]
  have he' : Tryz.prog.elem 100 = 122 := by simp [Program.elem, Tryz.underlying100]
  rw [run_slice_l W _ _ _ _ ht' .i64 _ (by omega) (by omega), he', Tryz.sizeOf122]
  have e1 : ¬ cap = i := by omega
  rcases Nat.eq_zero_or_pos i with rfl | hp
  · simp [Result.andThen, sliced, Addr.add]
  · have e2 : ¬ i * 6 = 0 := by omega
    simp [Result.andThen, sliced, Addr.add, e1]
    omega
theorem run_uptoH (g len cap i : Nat) (hc : i ≤ cap) (W : World) : (Instr.slice 100 (.slice (some ⟨g, 0, none⟩) len cap) none (some (.int .i64 (i : Int))) none).run Tryz.prog W = .ok (.slice (some ⟨g, 0, none⟩) i cap) W := by
  have ht' : Tryz.prog.underlying 100 = some (.slice (Tryz.prog.elem 100)) := by simp [Program.elem, Tryz.underlying100]
  have he' : Tryz.prog.elem 100 = 122 := by simp [Program.elem, Tryz.underlying100]
  rw [run_slice_h W _ _ _ _ ht' .i64 _ (by omega) (by omega), he', Tryz.sizeOf122]
  simp [Result.andThen, sliced, Addr.add]
theorem zeroH_run (w : World) : (zeroValue 122).run Tryz.prog w = .ok (.agg (hen zH).toArray) w := by
  have hz : Tryz.t122.zero = some (.agg (hen zH).toArray) := by kernel_rfl
  simp [zeroValue, hz]
/-- what stays -/
def kh (P : Hq → Bool) (B : List Hq) : List Hq := B.filter fun r => !P r
theorem kh_all {P : Hq → Bool} {B : List Hq} (h : ∀ x ∈ B, P x = false) : kh P B = B := List.filter_eq_self.2 fun x hx => by rw [h x hx]; rfl
theorem kh_app (P : Hq → Bool) (A B : List Hq) : kh P (A ++ B) = kh P A ++ kh P B := List.filter_append ..
/-- where DeleteFunc stands: the first i are kept, from j on nothing has turned -/
structure Dh (P : Hq → Bool) (w wr : World) (g : Nat) (B : List Hq) (rest : List Value) (i j : Nat) (F : List Hq) : Prop where
  rb : Hb wr g F rest
  len : F.length = B.length
  took : F.take i = kh P (B.take j)
  drop : F.drop j = B.drop j
  gr : w.grownBy wr (some g)
theorem Dh.skip {P : Hq → Bool} {w wr w2 : World} {g : Nat} {B : List Hq} {rest : List Value} {i j : Nat} {F : List Hq} (h : Dh P w wr g B rest i j F) (hj : j < B.length) (hp : P B[j] = true) (hb : Below wr.heap.size wr w2) : Dh P w w2 g B rest i (j + 1) F := by
  refine ⟨h.rb.below hb h.rb.lt, h.len, ?_, ?_, grown_trans h.gr (grown_below hb _)⟩
  · rw [h.took, List.take_succ_eq_append_getElem hj, kh_app]
    have : kh P [B[j]] = [] := by simp [kh, hp]
    rw [this, List.append_nil]
  · have := congrArg (List.drop 1) h.drop
    simpa [List.drop_drop, Nat.add_comm] using this
theorem Dh.keep {P : Hq → Bool} {w wr w2 : World} {g : Nat} {B : List Hq} {rest : List Value} {i j : Nat} {F : List Hq} (h : Dh P w wr g B rest i j F) (hj : j < B.length) (hi : i < j) (hp : P B[j] = false) (hb : Below wr.heap.size wr w2) : Dh P w (setH w2 g (i * 6) B[j]) g B rest (i + 1) (j + 1) (F.set i B[j]) := by
  have hl := h.len
  have h1 : Hb w2 g F rest := h.rb.below hb h.rb.lt
  have h2 := h1.put (j := i) (by omega) B[j]
  refine ⟨h2, by simpa using hl, ?_, ?_, ?_⟩
  · rw [List.take_succ_eq_append_getElem (by simp; omega), List.take_set_of_le (Nat.le_refl _), h.took, List.take_succ_eq_append_getElem hj, kh_app]
    have : kh P [B[j]] = [B[j]] := by simp [kh, hp]
    rw [this]
    simp
  · rw [List.drop_set_of_lt (by omega)]
    have := congrArg (List.drop 1) h.drop
    simpa [List.drop_drop, Nat.add_comm] using this
  · rw [setH_cells]
    exact grown_trans h.gr (grown_trans (grown_below hb _) (grown_setCells g _ _ w2))
theorem Dh.at {P : Hq → Bool} {w wr : World} {g : Nat} {B : List Hq} {rest : List Value} {i j : Nat} {F : List Hq} (h : Dh P w wr g B rest i j F) (hj : j < B.length) : wr.cell? ⟨g, j * 6, none⟩ = some (.int .i64 B[j].pl) ∧ wr.cell? ⟨g, j * 6 + 1, none⟩ = some (.string B[j].ts) ∧ wr.cell? ⟨g, j * 6 + 2, none⟩ = some (.int .i64 (B[j].rd : Int)) ∧ wr.cell? ⟨g, j * 6 + 3, none⟩ = some (.string B[j].sl) ∧ wr.cell? ⟨g, j * 6 + 4, none⟩ = some (.string B[j].ow) ∧ wr.cell? ⟨g, j * 6 + 5, none⟩ = some (.string B[j].nx) := by
  have hl := h.len
  have hF : F[j] = B[j] := by
    have := congrArg (fun l => l[0]?) h.drop
    simp only [List.getElem?_drop, Nat.add_zero] at this
    rw [List.getElem?_eq_getElem (by omega), List.getElem?_eq_getElem hj] at this
    exact Option.some.inj this
  have hc := h.rb.cells (j := j) (by omega)
  rw [hF] at hc
  exact hc
theorem Hb.six {w : World} {g : Nat} {F : List Hq} {rest : List Value} (h : Hb w g F rest) {i : Nat} (hi : i < F.length) : ∃ (pl : Int) (ts : ByteArray) (rd : Nat) (sl ow nx : ByteArray), w.cell? ⟨g, i * 6, none⟩ = some (.int .i64 pl) ∧ w.cell? ⟨g, i * 6 + 1, none⟩ = some (.string ts) ∧ w.cell? ⟨g, i * 6 + 2, none⟩ = some (.int .i64 (rd : Int)) ∧ w.cell? ⟨g, i * 6 + 3, none⟩ = some (.string sl) ∧ w.cell? ⟨g, i * 6 + 4, none⟩ = some (.string ow) ∧ w.cell? ⟨g, i * 6 + 5, none⟩ = some (.string nx) ∧ w.frozen? ⟨g, i * 6, none⟩ = false ∧ w.frozen? ⟨g, i * 6 + 1, none⟩ = false ∧ w.frozen? ⟨g, i * 6 + 2, none⟩ = false ∧ w.frozen? ⟨g, i * 6 + 3, none⟩ = false ∧ w.frozen? ⟨g, i * 6 + 4, none⟩ = false ∧ w.frozen? ⟨g, i * 6 + 5, none⟩ = false := by
  obtain ⟨h0, h1, h2, h3, h4, h5⟩ := h.cells hi
  exact ⟨_, _, _, _, _, _, h0, h1, h2, h3, h4, h5, h.free _, h.free _, h.free _, h.free _, h.free _, h.free _⟩
theorem Fh.none {P : Hq → Bool} {L : List Hq} {i : Int} (h : Fh P L i) (hn : L.any P = false) : i = -1 := by
  rcases h with ⟨h, _⟩ | ⟨k, hk, _, _, h, _⟩
  · exact h
  · rw [h] at hn; cases hn
theorem Fh.some {P : Hq → Bool} {L : List Hq} {i : Int} (h : Fh P L i) (hn : L.any P = true) : ∃ k : Nat, ∃ hk : k < L.length, i = (k : Int) ∧ P L[k] = true ∧ ∀ x ∈ L.take k, P x = false := by
  rcases h with ⟨_, h⟩ | ⟨k, hk, h1, h2, _, h3⟩
  · rw [h] at hn; cases hn
  · refine ⟨k, hk, h1, h2, fun x hx => ?_⟩
    obtain ⟨j, hj, rfl⟩ := List.getElem_of_mem hx
    rw [List.length_take] at hj
    rw [List.getElem_take]
    exact h3 j (by omega) (by omega)

set_option maxRecDepth 100000 in
set_option maxHeartbeats 4000000 in
/-- slices.DeleteFunc with hashing's function -/
theorem deleteH_any (P : Hq → Bool) (cv : Value) (B : List Hq) (rest : List Value) (g cap : Nat) (w : World) (h : Hb w g B rest) (hc : B.length ≤ cap) (hB : B.length ≤ 1048576)
    (hf : ∀ (x : Hq) (W : World), w.grownBy W (some g) → Calls Tryz.prog 86 #[hA x, cv] W fun r w' => r = .returned (.bool (P x)) ∧ Below W.heap.size W w') :
    Calls Tryz.prog 87 #[.slice (some ⟨g, 0, none⟩) B.length cap, .func (Fn.func 86) #[] #[cv]] w fun r w' => r = .returned (.slice (some ⟨g, 0, none⟩) (kh P B).length cap) ∧ HsAt w' (some ⟨g, 0, none⟩) (kh P B) ∧ w.grownBy w' (some g) := by
  have HR := hide' h
  have hat : HsAt w (some ⟨g, 0, none⟩) B := by have := hsAt_block (A := []) (B := B) (rest := rest) (w := w) (g := g) h; simpa using this
  have HI := hide' (indexH_other B (some ⟨g, 0, none⟩) cap cv P w (by omega) hat (fun k hk W hb => hf _ W (grown_below hb _)))
  have HF := hide' hf
  clear h hat hf
  rcases hidx : (B.any P) with _ | _
  · have hall : ∀ x ∈ B, P x = false := fun x hx => by
      have := List.any_eq_false.1 hidx x hx
      simpa using this
    have HK := hide' (kh_all hall)
    have HN := hide' hidx
    clear hidx hall
    go_enter Tryz.func87, Tryz.ntmps87
    go_wp2_with (go_at_call 92; refine HI.out.mono ?_; rintro r w1 ⟨⟨i, rfl, hi⟩, hB1⟩; obtain rfl := hi.none HN.out; have HB1 := hide' hB1; clear hi hB1)
    go_ret
    refine ⟨by rw [HK.out]; rfl, ?_, grown_below HB1.out _⟩
    rw [HK.out]
    have := hsAt_block (A := []) (B := B) (rest := rest) (w := w1) (g := g) (HR.out.below HB1.out HR.out.lt)
    simpa using this
  · have HS := hide' hidx
    clear hidx
    have HW := hide' (fun (W : World) (i : Nat) (h1 : i ≤ B.length) (h2 : i < cap) => run_fromH g B.length cap i h1 hc h2 W)
    have HV := hide' (fun (W : World) (i : Nat) (h1 : i ≤ cap) => run_uptoH g B.length cap i h1 W)
    go_enter Tryz.func87, Tryz.ntmps87
    go_wp2_with (go_at_call 92; refine HI.out.mono ?_; rintro r w1 ⟨⟨ii, rfl, hii⟩, hB1⟩; obtain ⟨i0, hi0, rfl, hp0, hq0⟩ := hii.some HS.out; have HP0 := hide' hp0; have HQ0 := hide' hq0; have HB1 := hide' hB1; have hne : ((i0 : Int) == -1) = false := (by rw [beq_eq_false_iff_ne]; omega); clear hii hB1 hp0 hq0)
    go_loopw [5, 6] (fun iv jv wr => ∃ (i j : Nat) (F : List Hq), iv = .int .i64 (i : Int) ∧ jv = .int .i64 (j : Int) ∧ i < j ∧ j ≤ B.length ∧ Hid (Dh P w wr g B rest i j F)) (fun _ jv _ => B.length - (intOf jv).toNat)
    case atStart =>
      refine ⟨i0, i0 + 1, B, rfl, by go_num, by omega, by omega, ⟨HR.out.below HB1.out HR.out.lt, rfl, ?_, rfl, grown_below HB1.out _⟩⟩
      rw [List.take_succ_eq_append_getElem hi0, kh_app, kh_all HQ0.out]
      have : kh P [B[i0]] = [] := by simp [kh, HP0.out]
      rw [this, List.append_nil]
    case round =>
      obtain ⟨i, j, F, rfl, rfl, hij, hj, HD⟩ := hrel
      by_cases hlt : j < B.length
      · obtain ⟨x0, x1, x2, x3, x4, x5⟩ := HD.out.at hlt
        obtain ⟨x, hx⟩ : ∃ x, B[j] = x := ⟨_, rfl⟩
        have HX := hide' hx
        rw [hx] at x0 x1 x2 x3 x4 x5
        clear hx
        have HC : Hid (∀ W : World, Below wr.heap.size wr W → Calls Tryz.prog 86 #[hA x, cv] W fun r w' => r = .returned (.bool (P x)) ∧ Below W.heap.size W w') := fun W hb => HF.out x W (grown_trans HD.out.gr (grown_below hb _))
        unfold hA at HC
        obtain ⟨pl, ts, rd, sl, ow, nx⟩ := x
        simp only at x0 x1 x2 x3 x4 x5 HC
        obtain ⟨wa, hwa⟩ : ∃ wa, wr.alloc (.cells #[.int .i64 pl, .string ts, .int .i64 (rd : Int), .string sl, .string ow, .string nx] 122) = wa := ⟨_, rfl⟩
        have HV0 : Hid (Bx wa wr.heap.size #[.int .i64 pl, .string ts, .int .i64 (rd : Int), .string sl, .string ow, .string nx] 122) := hwa ▸ World.alloc_heap_new wr _
        have HBa : Hid (Below wr.heap.size wr wa) := hwa ▸ (Below.refl _ wr).alloc (Nat.le_refl _) _
        have HC2 := hide' (HC.out wa HBa.out)
        clear HC
        have v0 : wa.cell? ⟨wr.heap.size, 0, none⟩ = some (.int .i64 pl) := HV0.out.cell rfl
        have v1 : wa.cell? ⟨wr.heap.size, 1, none⟩ = some (.string ts) := HV0.out.cell rfl
        have v2 : wa.cell? ⟨wr.heap.size, 2, none⟩ = some (.int .i64 (rd : Int)) := HV0.out.cell rfl
        have v3 : wa.cell? ⟨wr.heap.size, 3, none⟩ = some (.string sl) := HV0.out.cell rfl
        have v4 : wa.cell? ⟨wr.heap.size, 4, none⟩ = some (.string ow) := HV0.out.cell rfl
        have v5 : wa.cell? ⟨wr.heap.size, 5, none⟩ = some (.string nx) := HV0.out.cell rfl
        cases hp : P ⟨pl, ts, rd, sl, ow, nx⟩ with
        | true =>
          have HP := hide' hp
          rw [hp] at HC2
          clear hp
          go_wp2_with (go_at_call 86; refine HC2.out.mono ?_; rintro r w2 ⟨rfl, hB2⟩)
          have hB3 : Below wr.heap.size wr w2 := bstep HBa.out hB2 HBa.out.size
          refine ⟨⟨i, j + 1, F, rfl, by go_num, by omega, by omega, HD.out.skip hlt (by rw [HX.out]; exact HP.out) hB3⟩, ?_⟩
          simp [intOf]; omega
        | false =>
          have HP := hide' hp
          rw [hp] at HC2
          clear hp
          go_wp2_with (go_at_call 86; refine HC2.out.mono ?_; rintro r w2 ⟨rfl, hB2⟩; have HV2 := hide' (HV0.out.below hB2 HV0.out.lt); have HB2 : Hid (Below wr.heap.size wr w2) := bstep HBa.out hB2 HBa.out.size; clear hB2 v0 v1 v2 v3 v4 v5 x0 x1 x2 x3 x4 x5; have z0 : w2.cell? ⟨wr.heap.size, 0, none⟩ = some (.int .i64 pl) := HV2.out.cell rfl; have z1 : w2.cell? ⟨wr.heap.size, 1, none⟩ = some (.string ts) := HV2.out.cell rfl; have z2 : w2.cell? ⟨wr.heap.size, 2, none⟩ = some (.int .i64 (rd : Int)) := HV2.out.cell rfl; have z3 : w2.cell? ⟨wr.heap.size, 3, none⟩ = some (.string sl) := HV2.out.cell rfl; have z4 : w2.cell? ⟨wr.heap.size, 4, none⟩ = some (.string ow) := HV2.out.cell rfl; have z5 : w2.cell? ⟨wr.heap.size, 5, none⟩ = some (.string nx) := HV2.out.cell rfl; obtain ⟨ypl, yts, yrd, ysl, yow, ynx, y0, y1, y2, y3, y4, y5, f0, f1, f2, f3, f4, f5⟩ := Hb.six (i := i) (HD.out.rb.below HB2.out HD.out.rb.lt) (by rw [HD.out.len]; omega); have hiB : i < B.length := (by omega); obtain ⟨w3, hw3⟩ : ∃ w3, setH w2 g (i * 6) ⟨pl, ts, rd, sl, ow, nx⟩ = w3 := ⟨_, rfl⟩; have HW3 := hide' hw3; unfold setH at hw3; simp only at hw3)
          have hk := HD.out.keep hlt hij (by rw [HX.out]; exact HP.out) HB2.out
          rw [HX.out, HW3.out] at hk
          refine ⟨⟨i + 1, j + 1, F.set i ⟨pl, ts, rd, sl, ow, nx⟩, by go_num, by go_num, by omega, by omega, hk⟩, ?_⟩
          simp [intOf]; omega
      · have hjj : j = B.length := by omega
        have hl := HD.out.len
        have htk : F.take i = kh P B := by rw [HD.out.took, hjj, List.take_length]
        have hil : i = (kh P B).length := by
          have := congrArg List.length htk
          rw [List.length_take] at this
          omega
        have hib : i < B.length := by omega
        have hbc : i < cap := by omega
        have hsl := HW.out wr i (by omega) hbc
        have hrb : Hb wr g (F.take i ++ F.drop i) rest := by
          have := HD.out.rb
          rw [List.take_append_drop]; exact this
        have hdl : (F.drop i).length = B.length - i := by rw [List.length_drop, hl]
        have hal : (F.take i).length * 6 = i * 6 := by rw [List.length_take]; omega
        obtain ⟨w2, hcl, hr2, hg2⟩ := run_clearH wr zeroH_run g (F.take i) (F.drop i) rest (cap - i) 0 (by omega) hrb
        rw [hal, hdl] at hcl
        have hup := HV.out w2 i (by omega)
        have HR2 := hide' hr2
        have HG2 := hide' (grown_trans HD.out.gr hg2)
        have HTK := hide' htk
        have HIL := hide' hil
        clear hr2 hg2 htk hil hl hjj hrb hdl hal
        go_wp2_with fail
        go_ret
        refine ⟨by rw [← HIL.out]; rfl, ?_, HG2.out⟩
        have hr2 := HR2.out
        rw [HTK.out] at hr2
        have h9 := hsAt_block (A := []) (B := kh P B ++ List.replicate (F.drop i).length zH) (rest := rest) (w := w2) (g := g) hr2
        intro k hk
        obtain ⟨g', off, e1, e2, e3⟩ := h9 k (by rw [List.length_append]; omega)
        rw [List.getElem_append_left hk] at e3
        exact ⟨g', off, by simpa using e1, e2, e3⟩
end Go.Proofs.YtgekfhghambacaaGreat
