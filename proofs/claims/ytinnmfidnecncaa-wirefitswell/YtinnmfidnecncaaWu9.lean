import Derived.Test.YtinnmfidnecncaaWu6G
import Derived.Test.YtinnmfidnecncaaWc1G
import Derived.Deep.RegionHeld3
import Derived.Deep.CutRange
namespace Go.Proofs.Ytinnmfidnecncaa
set_option linter.unusedVariables false
open Go.RowKit Go.Shelf Go.Proofs.Ytinnmfidnecncaa.Nm

theorem bx5 {w : World} {R : Nat} {T : TypeId} {a b c d e : Value} (h : Bx w R #[a, b, c, d, e] T) : (w.cell? ⟨R, 0, none⟩ = some a ∧ w.cell? ⟨R, 1, none⟩ = some b ∧ w.cell? ⟨R, 2, none⟩ = some c ∧ w.cell? ⟨R, 3, none⟩ = some d ∧ w.cell? ⟨R, 4, none⟩ = some e) ∧ w.frozen? ⟨R, 0, none⟩ = false ∧ w.frozen? ⟨R, 1, none⟩ = false ∧ w.frozen? ⟨R, 2, none⟩ = false ∧ w.frozen? ⟨R, 3, none⟩ = false ∧ w.frozen? ⟨R, 4, none⟩ = false :=
  ⟨⟨h.cell rfl, h.cell rfl, h.cell rfl, h.cell rfl, h.cell rfl⟩, h.free 0, h.free 1, h.free 2, h.free 3, h.free 4⟩
def set5 (w : World) (R : Nat) (a b c d e : Value) : World := ((((w.setCell ⟨R, 0, none⟩ a).setCell ⟨R, 1, none⟩ b).setCell ⟨R, 2, none⟩ c).setCell ⟨R, 3, none⟩ d).setCell ⟨R, 4, none⟩ e
theorem bx5_set {w : World} {R : Nat} {T : TypeId} {a b c d e : Value} (h : Bx w R #[a, b, c, d, e] T) (x y z u v : Value) : Bx (set5 w R x y z u v) R #[x, y, z, u, v] T := ((((h.set 0 x).set 1 y).set 2 z).set 3 u).set 4 v
theorem grown_set5 {w w' : World} {r : Option Nat} (h : w.grownBy w' r) {R : Nat} (hR : w.heap.size ≤ R) (a b c d e : Value) : w.grownBy (set5 w' R a b c d e) r :=
  grown_far1 (grown_far1 (grown_far1 (grown_far1 (grown_far1 h hR _ _) hR _ _) hR _ _) hR _ _) hR _ _
theorem Rr.set5 {w : World} {g : Nat} {v : Value} {k en sh : Nat} (h : Rr w g v k en sh) {R : Nat} (hR : g ≠ R) (a b c d e : Value) : Rr (set5 w R a b c d e) g v k en sh :=
  ((((h.far hR _ _).far hR _ _).far hR _ _).far hR _ _).far hR _ _
def rEnd (r : Except Nat (Rn × Nat)) (g : Nat) (V : Value) (en sh : Nat) (w : World) (e : Ending) (w' : World) : Prop := match r with
  | .ok r => e = .returned (.tuple #[.agg #[.string r.1.o, .int .i64 r.1.t, .int .i64 r.1.c, .int .i64 r.1.l, .string r.1.d], .int .i64 0]) ∧ Rr w' g V r.2 en sh ∧ w.grownBy w' (some g)
  | .error x => e = .returned (.tuple #[.agg #[.string ⟨#[]⟩, .int .i64 0, .int .i64 0, .int .i64 0, .string ⟨#[]⟩], .int .i64 (x : Int)]) ∧ w.grownBy w' (some g) ∧ ∃ kx, kx ≤ en ∧ Rr w' g V kx en sh
theorem qr_err {B : ByteArray} {k x : Nat} (h : qr B k = .error x) : x ≠ 0 := by
  unfold qr at h
  split at h
  · rename_i e he
    cases h
    have := rn_err _ _ _ _ _ _ he
    omega
  · split at h
    · cases h; omega
    · cases h
theorem nmR_err {B : ByteArray} {en : Nat} : ∀ (m k : Nat) (acc : ByteArray) (x : Nat), nmR B en m k acc = .error x → x ≠ 0
  | 0, k, acc, x, h => by cases h
  | m + 1, k, acc, x, h => by
    unfold nmR at h
    split at h
    · rename_i e he
      cases h
      have := rn_err _ _ _ _ _ _ he
      omega
    · exact nmR_err m _ _ x h
theorem dr_err {B : ByteArray} {k en : Nat} {t : Int} {x : Nat} (h : dr B k en t = .error x) : x ≠ 0 := by
  unfold dr at h
  split at h
  · cases h
  · split at h
    · cases h; omega
    · exact nmR_err _ _ _ x h
theorem nmR_size {B : ByteArray} {en : Nat} (hE : en ≤ B.size) : ∀ (m k : Nat) (acc d : ByteArray), nmR B en m k acc = .ok d → d.size ≤ acc.size + 255 * m + B.size
  | 0, k, acc, d, h => by
    cases h
    have : (B.extract k en).size ≤ B.size := by simp [ByteArray.size_extract]; omega
    rw [ByteArray.size_append]; omega
  | m + 1, k, acc, d, h => by
    unfold nmR at h
    split at h
    · cases h
    · rename_i r hr
      obtain ⟨s, nx⟩ := r
      obtain ⟨h1, h2, h3, h4, h5⟩ := rn_name hE hr
      have := nmR_size hE m _ _ d h
      rw [ByteArray.size_append] at this
      simp only at this
      omega
theorem dr_size {B : ByteArray} {k en : Nat} {t : Int} {d : ByteArray} (hE : en ≤ B.size) (h : dr B k en t = .ok d) : d.size ≤ 1000 + B.size := by
  unfold dr at h
  split at h
  · cases h; simp
  · split at h
    · cases h
    · rename_i h1 h2
      have h3 := nmR_size hE _ _ _ d h
      have h4 := (shp_le t).2
      have h5 := (shp_le t).1
      have : (B.extract k (k + (shp t).1)).size ≤ 2 := by simp [ByteArray.size_extract]; omega
      omega

theorem slice_head (b x len cap h : Nat) (hh : h ≤ cap) (h0 : 0 < cap) (W : World) : (Instr.slice 26 (.slice (some ⟨b, x, none⟩) len cap) none (some (.int .i64 (h : Int))) none).run Try.prog W = .ok (.slice (some ⟨b, x, none⟩) h cap) W := by
  have ht' : Try.prog.underlying 26 = some (.slice (Try.prog.elem 26)) := by simp [Program.elem, Try.underlying26]
  have he' : Try.prog.elem 26 = 5 := by simp [Program.elem, Try.underlying26]
  rw [run_slice_h W _ _ _ _ ht' .i64 _ (by omega) (by omega), he', Try.sizeOf5]
  simp [Result.andThen, sliced, Addr.add]
theorem Rr.of {w : World} {g : Nat} {v : Value} {k en sh : Nat} {y1 y2 : Int} (h : w.heap[g]? = some (.cells #[v, .int .i64 y1, .int .i64 y2, .int .i64 (sh : Int)] 57 (0, 0))) (h1 : y1 = (k : Int)) (h2 : y2 = (en : Int)) : Rr w g v k en sh := by subst h1; subst h2; exact h
theorem qr_le {B : ByteArray} {k : Nat} {q : Qn} {k1 : Nat} (h : qr B k = .ok (q, k1)) : k1 ≤ B.size := (qr_ok h).2.2.2.1
theorem rr_le {B : ByteArray} {k : Nat} {q : Rn} {k1 : Nat} (h : rr B k = .ok (q, k1)) : k1 ≤ B.size := by
  unfold rr at h
  split at h
  · cases h
  · split at h
    · cases h
    · split at h
      · cases h
      · split at h
        · cases h
        · simp at h; omega
theorem rr_err {B : ByteArray} {k x : Nat} (h : rr B k = .error x) : x ≠ 0 := by
  unfold rr at h
  split at h
  · rename_i e he; cases h; exact qr_err he
  · split at h
    · cases h; omega
    · split at h
      · cases h; omega
      · split at h
        · rename_i e he
          cases h
          unfold sound at he
          split at he
          · rename_i e2 he2; cases he; exact dr_err he2
          · split at he
            · cases he
            · cases he; omega
        · cases h
/-- a record under way: the reader, the result's box, the question's box -/
structure Rq (w wx : World) (g b o cap K : Nat) (B : ByteArray) (Q : Nat) (q : Qn) : Prop where
  rd : Rr wx g (.slice (some ⟨b, o, none⟩) B.size cap) K B.size 10
  bx : Bx wx w.heap.size #[.string ⟨#[]⟩, .int .i64 0, .int .i64 0, .int .i64 0, .string ⟨#[]⟩] 70
  qb : Bx wx Q #[.string q.n, .int .i64 q.t, .int .i64 q.c] 51
  gr : w.grownBy wx (some g)
  by_ : Lib.Bytes wx b o B
  ge : w.heap.size < Q
  gl : g < w.heap.size
  bl : b < w.heap.size
  bg : b ≠ g
section
variable {w wx w2 : World} {g b o cap K K2 : Nat} {B : ByteArray} {Q : Nat} {q : Qn}
theorem Rq.move (h : Rq w wx g b o cap K B Q q) (hr : Rr w2 g (.slice (some ⟨b, o, none⟩) B.size cap) K2 B.size 10) (hg : wx.grownBy w2 (some g)) : Rq w w2 g b o cap K2 B Q q := by
  have h1 := h.ge
  have h2 := h.gl
  have h3 := h.bl
  have h4 := h.gr.size
  refine ⟨hr, h.bx.grown hg (fun e => by injection e; omega), h.qb.grown hg (fun e => by injection e; omega), grown_trans h.gr hg, h.by_.blk (hg.block b (by omega) (fun e => h.bg (Option.some.inj e))), h1, h2, h3, h.bg⟩
theorem Rq.apart (h : Rq w wx g b o cap K B Q q) {r : Option Nat} (hg : wx.grownBy w2 r) (hr : ∀ x, r = some x → w.heap.size < x ∧ x ≠ Q) : Rq w w2 g b o cap K B Q q := by
  have h1 := h.ge
  have h2 := h.gl
  have h3 := h.bl
  have h4 := h.gr.size
  refine ⟨(hg.block g h.rd.lt (fun e => by have := hr _ e.symm; omega)).trans h.rd, h.bx.grown hg (fun e => by have := hr _ e; omega), h.qb.grown hg (fun e => by have := hr _ e; omega), grown_step h.gr hg (fun x e => .inr (by have := hr _ e; omega)), h.by_.blk (hg.block b (by omega) (fun e => by have := hr _ e.symm; omega)), h1, h2, h3, h.bg⟩
theorem Rq.alloc (h : Rq w wx g b o cap K B Q q) (ob : Obj) : Rq w (wx.alloc ob) g b o cap K B Q q := h.apart (World.grownBy_alloc _ _ none) (fun x e => by cases e)
theorem Rq.drewN (h : Rq w wx g b o cap K B Q q) (m : Nat) : Rq w (wx.drewN m) g b o cap K B Q q := h.apart (grown_drewN _ _ none) (fun x e => by cases e)
theorem Rq.below (h : Rq w wx g b o cap K B Q q) (hb : Below wx.heap.size wx w2) : Rq w w2 g b o cap K B Q q := h.apart (grown_below hb none) (fun x e => by cases e)
/-- how it ends with an error -/
theorem Rq.bad (h : Rq w wx g b o cap K B Q q) : Bx (set5 wx w.heap.size (.string ⟨#[]⟩) (.int .i64 0) (.int .i64 0) (.int .i64 0) (.string ⟨#[]⟩)) w.heap.size #[.string ⟨#[]⟩, .int .i64 0, .int .i64 0, .int .i64 0, .string ⟨#[]⟩] 70 ∧ w.grownBy (set5 wx w.heap.size (.string ⟨#[]⟩) (.int .i64 0) (.int .i64 0) (.int .i64 0) (.string ⟨#[]⟩)) (some g) ∧ Rr (set5 wx w.heap.size (.string ⟨#[]⟩) (.int .i64 0) (.int .i64 0) (.int .i64 0) (.string ⟨#[]⟩)) g (.slice (some ⟨b, o, none⟩) B.size cap) K B.size 10 :=
  ⟨bx5_set h.bx _ _ _ _ _, grown_set5 h.gr (Nat.le_refl _) _ _ _ _ _, h.rd.set5 (by have := h.gl; omega) _ _ _ _ _⟩
end

set_option maxRecDepth 100000 in
set_option maxHeartbeats 8000000 in
/-- (*reader).record -/
theorem rrecord_any (g b o cap k : Nat) (B : ByteArray) (w : World) (h : Rr w g (.slice (some ⟨b, o, none⟩) B.size cap) k B.size 10) (hB : Lib.Bytes w b o B) (hb : b < w.heap.size) (hgb : b ≠ g) (hk : k ≤ B.size) (hS : B.size ≤ 65535) (hc : B.size ≤ cap) :
    Calls Try.prog 33 #[.pointer (some ⟨g, 0, none⟩)] w (rEnd (rr B k) g (.slice (some ⟨b, o, none⟩) B.size cap) B.size 10 w) := by
  have hg := h.lt
  obtain ⟨wa, hwa⟩ : ∃ wa, w.alloc (.cells #[.string ⟨#[]⟩, .int .i64 0, .int .i64 0, .int .i64 0, .string ⟨#[]⟩] 70) = wa := ⟨_, rfl⟩
  have hga : w.grownBy wa (some g) := hwa ▸ World.grownBy_alloc _ _ _
  have hza : wa.heap.size = w.heap.size + 1 := by rw [← hwa]; simp
  have hra : Rr wa g (.slice (some ⟨b, o, none⟩) B.size cap) k B.size 10 := (hwa ▸ ((Below.refl w.heap.size w).alloc (Nat.le_refl _) _).block g hg : wa.heap[g]? = w.heap[g]?).trans h
  have hBa : Lib.Bytes wa b o B := hB.blk (hga.block b hb (fun e => hgb (Option.some.inj e)))
  have HQA : Hid (Bx wa w.heap.size #[.string ⟨#[]⟩, .int .i64 0, .int .i64 0, .int .i64 0, .string ⟨#[]⟩] 70) := hwa ▸ World.alloc_heap_new w _
  have HQu := hide' (rquestion_any g b o cap k B wa hra hBa (by omega) hgb hk hS hc)
  have hne : (some g : Option Nat) ≠ some w.heap.size := fun e => by injection e; omega
  have HGA := hide' hga
  cases hr : qr B k with
  | error x =>
    have HQ : Hid (rr B k = .error x) := by unfold Hid rr; rw [hr]
    have hx : ((x : Int) != 0) = true := by
      have := qr_err hr
      simp [bne_iff_ne]; omega
    rw [hr] at HQu
    go_enter Try.func33, Try.ntmps33
    go_wp2_with (go_at_call 31; refine HQu.out.mono ?_; rintro e w1 ⟨rfl, hg1, kx, hkx, hrx⟩; have HRX := hide' hrx; clear hrx; have HG1 := hide' (grown_trans HGA.out hg1); have HX1 := hide' (HQA.out.grown hg1 hne); clear hg1; have HX2 := hide' (fun o => HX1.out.grown (World.grownBy_alloc w1 o none) (by simp)); have r0 := fun o => (bx5 (HX2.out o)).1.1; have r1 := fun o => (bx5 (HX2.out o)).1.2.1; have r2 := fun o => (bx5 (HX2.out o)).1.2.2.1; have r3 := fun o => (bx5 (HX2.out o)).1.2.2.2.1; have r4 := fun o => (bx5 (HX2.out o)).1.2.2.2.2; have f0 := fun o => (HX2.out o).free 0; have f1 := fun o => (HX2.out o).free 1; have f2 := fun o => (HX2.out o).free 2; have f3 := fun o => (HX2.out o).free 3; have f4 := fun o => (HX2.out o).free 4)
    obtain ⟨⟨q0, q1, q2, q3, q4⟩, _⟩ := bx5 (bx5_set (HX2.out (.cells #[.string ⟨#[]⟩, .int .i64 0, .int .i64 0] 51)) (.string ⟨#[]⟩) (.int .i64 0) (.int .i64 0) (.int .i64 0) (.string ⟨#[]⟩))
    unfold set5 at q0 q1 q2 q3 q4
    refine bodyPost_ret (v := .tuple #[.agg #[.string ⟨#[]⟩, .int .i64 0, .int .i64 0, .int .i64 0, .string ⟨#[]⟩], .int .i64 (x : Int)]) (by simp [results, go_sem, q0, q1, q2, q3, q4]) rfl ?_
    rw [HQ.out]
    exact ⟨rfl, grown_set5 (grown_trans HG1.out (World.grownBy_alloc _ _ _)) (Nat.le_refl _) _ _ _ _ _, kx, hkx, Rr.set5 (((World.grownBy_alloc w1 _ none).block g HRX.out.lt (fun e => by cases e)).trans HRX.out) (by omega) _ _ _ _ _⟩
  | ok r =>
    obtain ⟨⟨qn, qt, qc⟩, k1⟩ := r
    obtain ⟨v1, v2, v3, v4, ⟨tn, v5, v6⟩, ⟨cn, v7, v8⟩⟩ := qr_ok hr
    have HV := hide' (And.intro v1 (And.intro v5 v7))
    clear v1 v5 v7
    rw [hr] at HQu
    replace HQu : Hid (Calls Try.prog 31 #[.pointer (some ⟨g, 0, none⟩)] wa fun e w' => e = .returned (.tuple #[.agg #[.string qn, .int .i64 qt, .int .i64 qc], .int .i64 0]) ∧ Rr w' g (.slice (some ⟨b, o, none⟩) B.size cap) k1 B.size 10 ∧ wa.grownBy w' (some g)) := HQu.out
    have HS2 : Hid (∀ w1 w2 : World, w1.alloc (.cells #[.string qn, .int .i64 qt, .int .i64 qc] 51) = w2 → Rr w1 g (.slice (some ⟨b, o, none⟩) B.size cap) k1 B.size 10 → wa.grownBy w1 (some g) → Rq w w2 g b o cap k1 B w1.heap.size ⟨qn, qt, qc⟩) := by
      rintro w1 w2 rfl hr1 hg1
      have hz1 := hg1.size
      exact ⟨(World.grownBy_alloc w1 _ none).block g hr1.lt (fun e => by cases e) |>.trans hr1, (HQA.out.grown hg1 hne).grown (World.grownBy_alloc _ _ none) (by simp), World.alloc_heap_new w1 _, grown_trans (grown_trans HGA.out hg1) (World.grownBy_alloc _ _ _), hBa.blk (((World.grownBy_alloc w1 _ none).block b (by omega) (fun e => by cases e)).trans (hg1.block b (by omega) (fun e => hgb (Option.some.inj e)))), by omega, hg, hb, hgb⟩
    clear hra hBa HQA
    by_cases h6 : B.size < k1 + 6
    · have HQ : Hid (rr B k = .error 10) := by unfold Hid rr; rw [hr]; simp only; rw [if_pos h6]
      go_enter Try.func33, Try.ntmps33
      go_wp2_with (first
        | (go_at_call 31; refine HQu.out.mono ?_; rintro e w1 ⟨rfl, hr1, hg1⟩; obtain ⟨w2, hw2⟩ : ∃ w2, w1.alloc (.cells #[.string qn, .int .i64 qt, .int .i64 qc] 51) = w2 := ⟨_, rfl⟩; have H2 : Hid (Rq w w2 g b o cap k1 B w1.heap.size ⟨qn, qt, qc⟩) := HS2.out w1 w2 hw2 hr1 hg1; clear hr1 hg1)
        | (go_at_call 45; refine (take_no g _ k1 B.size 10 6 _ H2.out.rd v4 (by omega) (by omega) h6).mono ?_; rintro e w3 ⟨rfl, m, hm⟩; have H3 : Hid (Rq w w3 g b o cap k1 B w1.heap.size ⟨qn, qt, qc⟩) := hm ▸ H2.out.drewN m; clear hm; obtain ⟨⟨r0, r1, r2, r3, r4⟩, f0, f1, f2, f3, f4⟩ := bx5 H3.out.bx))
      obtain ⟨⟨q0, q1, q2, q3, q4⟩, _⟩ := bx5 H3.out.bad.1
      unfold set5 at q0 q1 q2 q3 q4
      refine bodyPost_ret (v := .tuple #[.agg #[.string ⟨#[]⟩, .int .i64 0, .int .i64 0, .int .i64 0, .string ⟨#[]⟩], .int .i64 10]) (by simp [results, go_sem, q0, q1, q2, q3, q4]) rfl ?_
      rw [HQ.out]
      exact ⟨rfl, H3.out.bad.2.1, _, by omega, H3.out.bad.2.2⟩
    have HT3 := hide' (fun (W : World) (hW : Rr W g (.slice (some ⟨b, o, none⟩) B.size cap) k1 B.size 10) => take_yes g b o B.size cap k1 B.size 10 6 W hW (by omega) (Nat.le_refl _) hc (by omega) (by omega) (by omega))
    obtain ⟨n, hn⟩ : ∃ n, be B (k1 + 4) 2 = n := ⟨_, rfl⟩
    have hnl : n < 65536 := hn ▸ be2_lt _ _
    have HNn := hide' (fun (W : World) (c : Nat) (hW : Lib.Bytes W b o B) => wnumber_any b o (k1 + 4) 2 c B W hW (by omega) (by omega))
    rw [hn, ← Nat.add_assoc] at HNn
    have HN := hide' hn
    clear hn
    have e46 : 6 - 4 = 2 := rfl
    by_cases h7 : B.size < k1 + 6 + n
    · have HQ : Hid (rr B k = .error 10) := by unfold Hid rr; rw [hr]; simp only; rw [if_neg h6, HN.out, if_pos h7]
      go_enter Try.func33, Try.ntmps33
      have FT1 : Hid True := trivial
      go_wp2_with (first
        | (go_at_call 31; refine HQu.out.mono ?_; rintro e w1 ⟨rfl, hr1, hg1⟩; obtain ⟨w2, hw2⟩ : ∃ w2, w1.alloc (.cells #[.string qn, .int .i64 qt, .int .i64 qc] 51) = w2 := ⟨_, rfl⟩; have H2 : Hid (Rq w w2 g b o cap k1 B w1.heap.size ⟨qn, qt, qc⟩) := HS2.out w1 w2 hw2 hr1 hg1; clear hr1 hg1)
        | (go_at_call 45; have _ := FT1; clear FT1; refine (HT3.out _ H2.out.rd).mono ?_; rintro e w3 ⟨rfl, hr3, hg3⟩; have H3 := hide' (H2.out.move hr3 hg3); have c31 := hr3.c1; clear hr3 hg3)
        | (go_at_call 15; refine Calls.mono (HNn.out _ _ H3.out.by_) ?_; rintro e w3' ⟨rfl, rfl⟩)
        | (go_at_call 45; refine (take_no g _ (k1 + 6) B.size 10 n _ H3.out.rd (by omega) (by omega) (by omega) h7).mono ?_; rintro e w4 ⟨rfl, m, hm⟩; have H4 : Hid (Rq w w4 g b o cap (k1 + 6) B w1.heap.size ⟨qn, qt, qc⟩) := hm ▸ H3.out.drewN m; clear hm; obtain ⟨⟨r0, r1, r2, r3, r4⟩, f0, f1, f2, f3, f4⟩ := bx5 H4.out.bx))
      obtain ⟨⟨q0, q1, q2, q3, q4⟩, _⟩ := bx5 H4.out.bad.1
      unfold set5 at q0 q1 q2 q3 q4
      refine bodyPost_ret (v := .tuple #[.agg #[.string ⟨#[]⟩, .int .i64 0, .int .i64 0, .int .i64 0, .string ⟨#[]⟩], .int .i64 10]) (by simp [results, go_sem, q0, q1, q2, q3, q4]) rfl ?_
      rw [HQ.out]
      exact ⟨rfl, H4.out.bad.2.1, _, by omega, H4.out.bad.2.2⟩
    have hke : k1 + 6 + n ≤ B.size := by omega
    have HDa := hide' (fun (W : World) (G : Nat) (hW : Rr W G (.slice (some ⟨b, o, none⟩) B.size cap) (k1 + 6) (k1 + 6 + n) 7) (hY : Lib.Bytes W b o B) (hbW : b < W.heap.size) (hG : b ≠ G) => rdata_any G b o cap (k1 + 6) (k1 + 6 + n) qt B W hW hY hbW hG (by omega) hke hS hc)
    cases hd : dr B (k1 + 6) (k1 + 6 + n) qt with
    | error x =>
      have HQ : Hid (rr B k = .error x) := by unfold Hid rr; rw [hr]; simp only; rw [if_neg h6, HN.out, if_neg h7, hd]; rfl
      have hx : ((x : Int) != 0) = true := by
        have := dr_err hd
        simp [bne_iff_ne]; omega
      rw [hd] at HDa
      go_enter Try.func33, Try.ntmps33
      have FT1 : Hid True := trivial
      go_wp2_with (first
        | (go_at_call 31; refine HQu.out.mono ?_; rintro e w1 ⟨rfl, hr1, hg1⟩; obtain ⟨w2, hw2⟩ : ∃ w2, w1.alloc (.cells #[.string qn, .int .i64 qt, .int .i64 qc] 51) = w2 := ⟨_, rfl⟩; have H2 : Hid (Rq w w2 g b o cap k1 B w1.heap.size ⟨qn, qt, qc⟩) := HS2.out w1 w2 hw2 hr1 hg1; clear hr1 hg1)
        | (go_at_call 45; have _ := FT1; clear FT1; refine (HT3.out _ H2.out.rd).mono ?_; rintro e w3 ⟨rfl, hr3, hg3⟩; have H3 := hide' (H2.out.move hr3 hg3); have c31 := hr3.c1; clear hr3 hg3)
        | (go_at_call 15; refine Calls.mono (HNn.out _ _ H3.out.by_) ?_; rintro e w3' ⟨rfl, rfl⟩)
        | (go_at_call 45; refine (take_any g b o B.size cap (k1 + 6) B.size 10 n _ H3.out.rd (by omega) (Nat.le_refl _) hc (by omega) (by omega)).mono ?_; rintro e w4 ⟨xw, rfl, _, hr4, hg4⟩; have H4 := hide' (H3.out.move hr4 hg4); have hz4 : w1.heap.size < w4.heap.size := H4.out.qb.lt; have hgl4 : g < w4.heap.size := H4.out.rd.lt; have c40 := hr4.c0; have c41 := hr4.c1; clear hr4 hg4 c31))
      obtain ⟨w5, hw5⟩ : ∃ w5, w4.alloc (.cells #[.slice (some ⟨b, o, none⟩) B.size cap, .int .i64 ((k1 : Int) + 6), .int .i64 ((k1 : Int) + 6 + (n : Int)), .int .i64 7] 57) = w5 := ⟨_, rfl⟩
      go_region
      have hR6 : Rr w5.drew w4.heap.size (.slice (some ⟨b, o, none⟩) B.size cap) (k1 + 6) (k1 + 6 + n) 7 := Rr.of (hw5 ▸ World.alloc_heap_new w4 _) (by omega) (by omega)
      have H6 : Hid (Rq w w5.drew g b o cap (k1 + 6 + n) B w1.heap.size ⟨qn, qt, qc⟩) := hw5 ▸ (H4.out.alloc _).drewN 1
      have hb6 : b < w5.drew.heap.size := by have := H6.out.gr.size; omega
      have hG6 : w.heap.size < w4.heap.size := by have := H4.out.ge; omega
      generalize w5.drew = w6 at *
      clear c40 c41 hw5
      have c61 := H6.out.qb.cell (j := 1) rfl
      go_wp2_with (go_at_call 46; refine (HDa.out _ _ hR6 H6.out.by_ hb6 (by omega)).mono ?_; rintro e w7 ⟨rfl, hg7⟩; have H7 := hide' (H6.out.apart hg7 (fun x e => by injection e; omega)); clear hg7; obtain ⟨⟨r0, r1, r2, r3, r4⟩, f0, f1, f2, f3, f4⟩ := bx5 H7.out.bx)
      obtain ⟨⟨q0, q1, q2, q3, q4⟩, _⟩ := bx5 H7.out.bad.1
      unfold set5 at q0 q1 q2 q3 q4
      refine bodyPost_ret (v := .tuple #[.agg #[.string ⟨#[]⟩, .int .i64 0, .int .i64 0, .int .i64 0, .string ⟨#[]⟩], .int .i64 (x : Int)]) (by simp [results, go_sem, q0, q1, q2, q3, q4]) rfl ?_
      rw [HQ.out]
      exact ⟨rfl, H7.out.bad.2.1, _, by omega, H7.out.bad.2.2⟩
    | ok d =>
      have hds := dr_size hke hd
      rw [hd] at HDa
      have HNt := hide' (fun (W : World) (c : Nat) (hW : Lib.Bytes W b o B) => wnumber_any b o k1 4 c B W hW (by omega) (by omega))
      obtain ⟨tl, htl⟩ : ∃ tl, be B k1 4 = tl := ⟨_, rfl⟩
      rw [htl] at HNt
      have hsl4 : ∀ W : World, (Instr.slice 26 (.slice (some ⟨b, o + k1, none⟩) 6 (cap - k1)) none (some (.int .i64 4)) none).run Try.prog W = .ok (.slice (some ⟨b, o + k1, none⟩) 4 (cap - k1)) W := fun W => slice_head b (o + k1) 6 (cap - k1) 4 (by omega) (by omega) W
      have HTL := hide' htl
      clear htl
      have HDk := hide' (fun (W : World) => rightData_any qn qt qc (tl : Int) d W (by omega))
      cases hok : dataOK qt qc d with
      | false =>
        have HQ : Hid (rr B k = .error 7) := by unfold Hid rr; rw [hr]; simp only; rw [if_neg h6, HN.out, if_neg h7, hd, sound_no hok]
        rw [hok] at HDk
        go_enter Try.func33, Try.ntmps33
        have FT1 : Hid True := trivial
        go_wp2_with (first
          | (go_at_call 31; refine HQu.out.mono ?_; rintro e w1 ⟨rfl, hr1, hg1⟩; obtain ⟨w2, hw2⟩ : ∃ w2, w1.alloc (.cells #[.string qn, .int .i64 qt, .int .i64 qc] 51) = w2 := ⟨_, rfl⟩; have H2 : Hid (Rq w w2 g b o cap k1 B w1.heap.size ⟨qn, qt, qc⟩) := HS2.out w1 w2 hw2 hr1 hg1; clear hr1 hg1)
          | (go_at_call 45; have _ := FT1; clear FT1; refine (HT3.out _ H2.out.rd).mono ?_; rintro e w3 ⟨rfl, hr3, hg3⟩; have H3 := hide' (H2.out.move hr3 hg3); have c31 := hr3.c1; clear hr3 hg3)
          | (go_at_call 15; refine Calls.mono (HNn.out _ _ H3.out.by_) ?_; rintro e w3' ⟨rfl, rfl⟩)
          | (go_at_call 45; refine (take_any g b o B.size cap (k1 + 6) B.size 10 n _ H3.out.rd (by omega) (Nat.le_refl _) hc (by omega) (by omega)).mono ?_; rintro e w4 ⟨xw, rfl, _, hr4, hg4⟩; have H4 := hide' (H3.out.move hr4 hg4); have hz4 : w1.heap.size < w4.heap.size := H4.out.qb.lt; have hgl4 : g < w4.heap.size := H4.out.rd.lt; have c40 := hr4.c0; have c41 := hr4.c1; clear hr4 hg4 c31))
        obtain ⟨w5, hw5⟩ : ∃ w5, w4.alloc (.cells #[.slice (some ⟨b, o, none⟩) B.size cap, .int .i64 ((k1 : Int) + 6), .int .i64 ((k1 : Int) + 6 + (n : Int)), .int .i64 7] 57) = w5 := ⟨_, rfl⟩
        go_region
        have hR6 : Rr w5.drew w4.heap.size (.slice (some ⟨b, o, none⟩) B.size cap) (k1 + 6) (k1 + 6 + n) 7 := Rr.of (hw5 ▸ World.alloc_heap_new w4 _) (by omega) (by omega)
        have H6 : Hid (Rq w w5.drew g b o cap (k1 + 6 + n) B w1.heap.size ⟨qn, qt, qc⟩) := hw5 ▸ (H4.out.alloc _).drewN 1
        have hb6 : b < w5.drew.heap.size := by have := H6.out.gr.size; omega
        have hG6 : w.heap.size < w4.heap.size := by have := H4.out.ge; omega
        generalize w5.drew = w6 at *
        clear c40 c41 hw5
        have c61 := H6.out.qb.cell (j := 1) rfl
        go_upto_region 15 with (go_at_call 46; refine (HDa.out _ _ hR6 H6.out.by_ hb6 (by omega)).mono ?_; rintro e w7 ⟨rfl, hg7⟩; have H7 := hide' (H6.out.apart hg7 (fun x e => by injection e; omega)); clear hg7)
        obtain ⟨s0, s1, s2, _⟩ := bx3 H7.out.qb
        have hz7 : w1.heap.size < w7.heap.size := H7.out.qb.lt
        clear hwa hz4 hgl4 hg hb hR6 hb6 c61
        go_cut [12] from 67 (fun s12 wc => s12 = .pointer (some ⟨w7.heap.size, 0, none⟩) ∧ Rq w wc g b o cap (k1 + 6 + n) B w1.heap.size ⟨qn, qt, qc⟩ ∧ Bx wc w7.heap.size #[.string qn, .int .i64 qt, .int .i64 qc, .int .i64 (tl : Int), .string d] 70)
        case first =>
          go_region_held3 (fun w' => w'.cell? ⟨w1.heap.size, 0, none⟩ = some (.string qn) ∧ w'.cell? ⟨w1.heap.size, 1, none⟩ = some (.int .i64 qt) ∧ w'.cell? ⟨w1.heap.size, 2, none⟩ = some (.int .i64 qc)) (first | go_keep) ((go_at_call 15; (first | refine Calls.mono (HNt.out _ _ H7.out.by_) ?_ | refine Calls.mono (HNt.out _ _ (H7.out.alloc _).by_) ?_); rintro e w8' ⟨rfl, rfl⟩))
          all_goals
            go_wp2_with fail
            go_meet
            case rel => exact ⟨rfl, (H7.out.alloc _).drewN 1, World.alloc_heap_new w7 _⟩
        case rest =>
          obtain ⟨rfl, H8, X8⟩ := hcut
          obtain ⟨⟨t0, t1, t2, t3, t4⟩, _⟩ := bx5 X8
          go_wp2_with (go_at_call 35; refine (HDk.out _).mono ?_; rintro e w9 ⟨rfl, hB9⟩; have H9 := hide' (H8.below hB9); have X9 := hide' (X8.below hB9 X8.lt); obtain ⟨⟨r0, r1, r2, r3, r4⟩, f0, f1, f2, f3, f4⟩ := bx5 H9.out.bx; obtain ⟨⟨u0, u1, u2, u3, u4⟩, _⟩ := bx5 X9.out; clear hB9)
          obtain ⟨⟨q0, q1, q2, q3, q4⟩, _⟩ := bx5 H9.out.bad.1
          unfold set5 at q0 q1 q2 q3 q4
          refine bodyPost_ret (v := .tuple #[.agg #[.string ⟨#[]⟩, .int .i64 0, .int .i64 0, .int .i64 0, .string ⟨#[]⟩], .int .i64 7]) (by simp [results, go_sem, q0, q1, q2, q3, q4]) rfl ?_
          rw [HQ.out]
          exact ⟨rfl, H9.out.bad.2.1, _, by omega, H9.out.bad.2.2⟩
      | true =>
        have HQ : Hid (rr B k = .ok (⟨qn, qt, qc, (tl : Nat), d⟩, k1 + 6 + n)) := by
          unfold Hid rr; rw [hr]; simp only
          rw [if_neg h6, HN.out, if_neg h7, hd]
          unfold sound; simp only
          rw [if_pos hok, HTL.out]
        rw [hok] at HDk
        go_enter Try.func33, Try.ntmps33
        have FT1 : Hid True := trivial
        go_wp2_with (first
          | (go_at_call 31; refine HQu.out.mono ?_; rintro e w1 ⟨rfl, hr1, hg1⟩; obtain ⟨w2, hw2⟩ : ∃ w2, w1.alloc (.cells #[.string qn, .int .i64 qt, .int .i64 qc] 51) = w2 := ⟨_, rfl⟩; have H2 : Hid (Rq w w2 g b o cap k1 B w1.heap.size ⟨qn, qt, qc⟩) := HS2.out w1 w2 hw2 hr1 hg1; clear hr1 hg1)
          | (go_at_call 45; have _ := FT1; clear FT1; refine (HT3.out _ H2.out.rd).mono ?_; rintro e w3 ⟨rfl, hr3, hg3⟩; have H3 := hide' (H2.out.move hr3 hg3); have c31 := hr3.c1; clear hr3 hg3)
          | (go_at_call 15; refine Calls.mono (HNn.out _ _ H3.out.by_) ?_; rintro e w3' ⟨rfl, rfl⟩)
          | (go_at_call 45; refine (take_any g b o B.size cap (k1 + 6) B.size 10 n _ H3.out.rd (by omega) (Nat.le_refl _) hc (by omega) (by omega)).mono ?_; rintro e w4 ⟨xw, rfl, _, hr4, hg4⟩; have H4 := hide' (H3.out.move hr4 hg4); have hz4 : w1.heap.size < w4.heap.size := H4.out.qb.lt; have hgl4 : g < w4.heap.size := H4.out.rd.lt; have c40 := hr4.c0; have c41 := hr4.c1; clear hr4 hg4 c31))
        obtain ⟨w5, hw5⟩ : ∃ w5, w4.alloc (.cells #[.slice (some ⟨b, o, none⟩) B.size cap, .int .i64 ((k1 : Int) + 6), .int .i64 ((k1 : Int) + 6 + (n : Int)), .int .i64 7] 57) = w5 := ⟨_, rfl⟩
        go_region
        have hR6 : Rr w5.drew w4.heap.size (.slice (some ⟨b, o, none⟩) B.size cap) (k1 + 6) (k1 + 6 + n) 7 := Rr.of (hw5 ▸ World.alloc_heap_new w4 _) (by omega) (by omega)
        have H6 : Hid (Rq w w5.drew g b o cap (k1 + 6 + n) B w1.heap.size ⟨qn, qt, qc⟩) := hw5 ▸ (H4.out.alloc _).drewN 1
        have hb6 : b < w5.drew.heap.size := by have := H6.out.gr.size; omega
        have hG6 : w.heap.size < w4.heap.size := by have := H4.out.ge; omega
        generalize w5.drew = w6 at *
        clear c40 c41 hw5
        have c61 := H6.out.qb.cell (j := 1) rfl
        go_upto_region 15 with (go_at_call 46; refine (HDa.out _ _ hR6 H6.out.by_ hb6 (by omega)).mono ?_; rintro e w7 ⟨rfl, hg7⟩; have H7 := hide' (H6.out.apart hg7 (fun x e => by injection e; omega)); clear hg7)
        obtain ⟨s0, s1, s2, _⟩ := bx3 H7.out.qb
        have hz7 : w1.heap.size < w7.heap.size := H7.out.qb.lt
        clear hwa hz4 hgl4 hg hb hR6 hb6 c61
        go_cut [12] from 67 (fun s12 wc => s12 = .pointer (some ⟨w7.heap.size, 0, none⟩) ∧ Rq w wc g b o cap (k1 + 6 + n) B w1.heap.size ⟨qn, qt, qc⟩ ∧ Bx wc w7.heap.size #[.string qn, .int .i64 qt, .int .i64 qc, .int .i64 (tl : Int), .string d] 70)
        case first =>
          go_region_held3 (fun w' => w'.cell? ⟨w1.heap.size, 0, none⟩ = some (.string qn) ∧ w'.cell? ⟨w1.heap.size, 1, none⟩ = some (.int .i64 qt) ∧ w'.cell? ⟨w1.heap.size, 2, none⟩ = some (.int .i64 qc)) (first | go_keep) ((go_at_call 15; (first | refine Calls.mono (HNt.out _ _ H7.out.by_) ?_ | refine Calls.mono (HNt.out _ _ (H7.out.alloc _).by_) ?_); rintro e w8' ⟨rfl, rfl⟩))
          all_goals
            go_wp2_with fail
            go_meet
            case rel => exact ⟨rfl, (H7.out.alloc _).drewN 1, World.alloc_heap_new w7 _⟩
        case rest =>
          obtain ⟨rfl, H8, X8⟩ := hcut
          obtain ⟨⟨t0, t1, t2, t3, t4⟩, _⟩ := bx5 X8
          go_wp2_with (go_at_call 35; refine (HDk.out _).mono ?_; rintro e w9 ⟨rfl, hB9⟩; have H9 := hide' (H8.below hB9); have X9 := hide' (X8.below hB9 X8.lt); obtain ⟨⟨r0, r1, r2, r3, r4⟩, f0, f1, f2, f3, f4⟩ := bx5 H9.out.bx; obtain ⟨⟨u0, u1, u2, u3, u4⟩, _⟩ := bx5 X9.out; clear hB9)
          obtain ⟨⟨q0, q1, q2, q3, q4⟩, _⟩ := bx5 (bx5_set H9.out.bx (.string qn) (.int .i64 qt) (.int .i64 qc) (.int .i64 (tl : Int)) (.string d))
          unfold set5 at q0 q1 q2 q3 q4
          refine bodyPost_ret (v := .tuple #[.agg #[.string qn, .int .i64 qt, .int .i64 qc, .int .i64 (tl : Int), .string d], .int .i64 0]) (by simp [results, go_sem, q0, q1, q2, q3, q4]) rfl ?_
          rw [HQ.out]
          have hgl := H9.out.gl
          exact ⟨rfl, H9.out.rd.set5 (by omega) _ _ _ _ _, grown_set5 H9.out.gr (Nat.le_refl _) _ _ _ _ _⟩
end Go.Proofs.Ytinnmfidnecncaa
