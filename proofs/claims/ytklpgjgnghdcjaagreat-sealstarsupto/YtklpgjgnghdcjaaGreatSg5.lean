import Derived.Test.YtklpgjgnghdcjaaGreatSg1G
import Derived.Test.YtklpgjgnghdcjaaGreatSg3
/-
  seal.isSet. (The verifier's own text.)
-/
namespace Go.Proofs.YtklpgjgnghdcjaaGreat
set_option linter.unusedVariables false
set_option linter.unusedSimpArgs false
open Go.RowKit Go.Shelf Go.Sort Go.Proofs.YtklpgjgnghdcjaaGreat.Nm

/-- what is strange beside a record of that type and owner -/
def strB (t0 : Int) (o0 : ByteArray) (r : Rn) : Bool := !zonB r.o r.d r.t r.c r.l || r.t != t0 || !eqB r.o o0
/-- are the records a set? -/
def setOK (L : List Rn) : Bool := match L with
  | [] => false
  | x :: l => !(x.t == 46) && !((x :: l).any (strB x.t x.o)) && ((Lib.compact (srt (fdL (x :: l)))).length == (x :: l).length)
theorem setOK_eq {L : List Rn} (h0 : 0 < L.length) : setOK L = (!(L[0].t == 46) && !(L.any (strB L[0].t L[0].o)) && ((Lib.compact (srt (fdL L))).length == L.length)) := by
  cases L with
  | nil => simp at h0
  | cons x l => rfl
theorem int_beq (a b : Nat) : ((a : Int) == (b : Int)) = (a == b) := by
  rw [Bool.eq_iff_iff, beq_iff_eq, beq_iff_eq]; omega
theorem setOK_nil {L : List Rn} (h0 : L.length = 0) : setOK L = false := by
  cases L with
  | nil => rfl
  | cons x l => simp at h0
set_option maxRecDepth 100000 in
set_option maxHeartbeats 4000000 in
/-- seal.isSet -/
theorem isSet_any (L : List Rn) (p : Option Addr) (cap : Nat) (w : World) (hL : L.length ≤ 1048576) (hat : RsAt w p L) (hz : ∀ r ∈ L, r.o.size ≤ maxLen ∧ r.d.size ≤ 9223372036854775807) :
    Calls Tryz.prog 22 #[.slice p L.length cap] w fun r w' => r = .returned (.bool (setOK L)) ∧ Below w.heap.size w w' := by
  obtain ⟨W, hW⟩ : ∃ W, w.alloc (.cells #[.slice p L.length cap] 24) = W := ⟨_, rfl⟩
  have HB : Hid (Below w.heap.size w W) := by rw [← hW]; exact (Below.refl _ _).alloc (Nat.le_refl _) _
  have h0 : Bx (w.alloc (.cells #[.slice p L.length cap] 24)) w.heap.size #[.slice p L.length cap] 24 := World.alloc_heap_new w _
  rw [hW] at h0
  have hatW : RsAt W p L := rsAt_below7 hat HB.out
  have k0 : W.cell? ⟨w.heap.size, 0, none⟩ = some (.slice p L.length cap) := h0.cell rfl
  by_cases hl : L.length = 0
  · have HN := hide' (setOK_nil hl)
    rw [HN.out]
    have hli : (L.length : Int) = 0 := by omega
    clear h0 hatW hat hz HN
    go_enter Tryz.func22, Tryz.ntmps22
    go_wp2_with fail
    go_ret
    exact ⟨rfl, by first | exact HB.out | exact (Below.refl _ _).alloc (Nat.le_refl _) _⟩
  have hlp : 0 < L.length := by omega
  have hli : ¬ (L.length : Int) = 0 := by omega
  have HE := hide' (setOK_eq hlp)
  rw [HE.out]
  obtain ⟨g, off, hp, hg, e0, e1, -, -, -⟩ := hatW 0 hlp
  rw [Nat.zero_mul, Nat.add_zero] at e0 e1
  have HC := hide' (containsSet_any L p cap (.pointer (some ⟨w.heap.size, 0, none⟩)) (strB L[0].t L[0].o) W (by omega) hatW (fun k hk W' hb => by
    have c1 : W'.cell? ⟨w.heap.size, 0, none⟩ = some (.slice (some ⟨g, off, none⟩) L.length cap) := by rw [hb.cell (p := ⟨w.heap.size, 0, none⟩) h0.lt, k0, hp]
    have c2 : W'.cell? ⟨g, off, none⟩ = some (.string L[0].o) := by rw [hb.cell (p := ⟨g, off, none⟩) hg]; exact e0
    have c3 : W'.cell? ⟨g, off + 1, none⟩ = some (.int .i64 L[0].t) := by rw [hb.cell (p := ⟨g, off + 1, none⟩) hg]; exact e1
    exact strange_any _ _ _ _ _ _ _ w.heap.size g off L.length cap W' (hz _ (List.getElem_mem hk)).1 (hz _ (List.getElem_mem hk)).2 (hz _ (List.getElem_mem hlp)).1 (Nat.lt_of_lt_of_le h0.lt hb.size) c1 hlp (Nat.lt_of_lt_of_le hg hb.size) c2 c3))
  have HA := hide' hatW
  have HZ : Hid (∀ r ∈ L, r.d.size ≤ 9223372036854775807) := fun r hr => (hz r hr).2
  have HX := hide' h0
  generalize (L.any (strB L[0].t L[0].o)) = bb at *
  generalize L[0].t = t0 at *
  clear h0 hatW hat HE hz e0
  subst hp
  by_cases ht : t0 = 46
  · subst ht
    go_enter Tryz.func22, Tryz.ntmps22
    go_wp2_with fail
    go_ret
    exact ⟨by simp, HB.out⟩
  have htb : (t0 == 46) = false := by simpa using ht
  rw [htb]
  cases bb with
  | true =>
    go_enter Tryz.func22, Tryz.ntmps22
    go_wp2_with (go_at_call 64; refine HC.out.mono ?_; rintro r w1 ⟨rfl, hB1⟩)
    go_ret
    exact ⟨by simp, bstep HB.out hB1 HB.out.size⟩
  | false =>
    obtain ⟨Q, hQ⟩ : ∃ Q, (Lib.compact (srt (fdL L))).length = Q := ⟨_, rfl⟩
    rw [hQ]
    have HQ := hide' hQ
    clear hQ
    go_enter Tryz.func22, Tryz.ntmps22
    go_wp2_with (go_at_call 64; refine HC.out.mono ?_; rintro r w1 ⟨rfl, hB1⟩; have HX1 := hide' (HX.out.below hB1 HX.out.lt); have HA1 := hide' (rsAt_below7 HA.out hB1); have HB1 := hide' (bstep HB.out hB1 HB.out.size); have k1 : w1.cell? ⟨w.heap.size, 0, none⟩ = some (.slice (some ⟨g, off, none⟩) L.length cap) := HX1.out.cell rfl; clear hB1)
    go_region_held3 (fun w' => w'.cell? ⟨w.heap.size, 0, none⟩ = some (.slice (some ⟨g, off, none⟩) L.length cap)) (first | go_keep | exact HX3.out.cell rfl | exact HX2.out.cell rfl) (first
      | (go_at_call 66; refine (folded_any L _ cap _ hlp hL (show RsAt _ _ L by first | exact HA1.out | exact rsAt_below7 HA1.out (Below.refl _ w1).drew) HZ.out).mono ?_; rintro e w2 ⟨gr, cr, rfl, ho, hB⟩; have HX2 := hide' (show Bx w2 w.heap.size #[.slice (some ⟨g, off, none⟩) L.length cap] 24 by first | exact HX1.out.below hB HX1.out.lt | exact (bx_d8 HX1.out).below hB HX1.out.lt); have HB2 := hide' (show Below w.heap.size w w2 by first | exact bstep HB1.out hB HB1.out.size | exact bstep HB1.out.drew hB HB1.out.size); have HO := hide' ho; have HG : Hid (w.heap.size < gr) := (by unfold Hid; have := (ho.lt gr rfl).1; have := HX1.out.lt; have h5 : w1.drew.heap.size = w1.heap.size := rfl; omega); clear ho hB)
      | (go_at_call 65; refine (compactS_own (srt (fdL L)) gr cr _ L.length _ (show World.ownsRow _ _ 9 1 (.slice (some ⟨gr, 0, none⟩) L.length cr) L.length ((srt (fdL L)).map encStr) by exact HO.out) (by unfold srt; rw [List.length_mergeSort, fdL_len]) (by omega)).mono ?_; rintro e w3 ⟨rfl, hgr⟩; have HX3 := hide' (show Bx w3 w.heap.size #[.slice (some ⟨g, off, none⟩) L.length cap] 24 by exact HX2.out.grown hgr (by intro h; injection h with h; have := HG.out; omega)); have HB3 := hide' (show Below w.heap.size w w3 by exact HB2.out.grown hgr HB2.out.size (fun q e => by injection e with e; have := HG.out; omega)); rw [HQ.out]; clear hgr))
    go_wp2_with fail
    go_ret
    exact ⟨by rw [int_beq]; rfl, by first | exact HB3.out | exact HB3.out.drew⟩
end Go.Proofs.YtklpgjgnghdcjaaGreat
