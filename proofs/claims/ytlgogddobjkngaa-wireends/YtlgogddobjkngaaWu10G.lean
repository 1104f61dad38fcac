import Derived.Test.YtlgogddobjkngaaWu9
namespace Go.Proofs.Ytlgogddobjkngaa
set_option linter.unusedVariables false
open Go.RowKit Go.Shelf Go.Proofs.Ytlgogddobjkngaa.Nm

theorem row_newQ (w : World) (cs : Array Value) (T : TypeId) : ∀ j u, cs.toList[j]? = some u → (w.alloc (.cells cs T)).cell? ((⟨w.heap.size, 0, none⟩ : Addr).add j) = some u := by
  intro j u hj
  have ea : (⟨w.heap.size, 0, none⟩ : Addr).add j = ⟨w.heap.size, j, none⟩ := by
    unfold Addr.add; split <;> simp_all
  rw [ea]
  exact Bx.cell (World.alloc_heap_new w _) (by rw [← Array.getElem?_toList]; exact hj)
theorem Rr.alloc {w : World} {g : Nat} {v : Value} {k en sh : Nat} (h : Rr w g v k en sh) (o : Obj) : Rr (w.alloc o) g v k en sh := ((World.grownBy_alloc w o none).block g h.lt (fun e => by cases e)).trans h
/-- questions as cells -/
def qenc (x : Qn) : List Value := [.string x.n, .int .i64 x.t, .int .i64 x.c]
def qcells (L : List Qn) : List Value := L.flatMap qenc
theorem qcells_app (L : List Qn) (x : Qn) : qcells (L ++ [x]) = qcells L ++ qenc x := by simp [qcells]
theorem Try.infoQuestion : (Try.prog.info? 47).map (fun i => (i.zero, i.size, i.bytes)) = some (some (.agg #[.string ⟨#[]⟩, .int .i64 0, .int .i64 0]), 3, 32) := by kernel_rfl
def lqEnd (r : Except (Nat × Nat) (List Qn × Nat)) (g : Nat) (V : Value) (en sh : Nat) (w : World) (e : Ending) (w' : World) : Prop := match r with
  | .ok r => ∃ p c, e = .returned (.tuple #[.slice p r.1.length c, .int .i64 0]) ∧ w'.ownsRow w.heap.size 47 3 (.slice p r.1.length c) r.1.length (qcells r.1) ∧ Rr w' g V r.2 en sh ∧ w.grownBy w' (some g)
  | .error x => e = .returned (.tuple #[.slice none 0 0, .int .i64 (x.1 : Int)]) ∧ Rr w' g V x.2 en sh ∧ w.grownBy w' (some g)

set_option maxRecDepth 100000 in
set_option maxHeartbeats 4000000 in
/-- wire.list of questions -/
theorem qlist_any (g b o cap k c : Nat) (B : ByteArray) (w : World) (h : Rr w g (.slice (some ⟨b, o, none⟩) B.size cap) k B.size 10) (hB : Lib.Bytes w b o B) (hb : b < w.heap.size) (hgb : b ≠ g) (hk : k ≤ B.size) (hS : B.size ≤ 65535) (hc : B.size ≤ cap) (hcl : c ≤ 65535) :
    Calls Try.prog 25 #[.pointer (some ⟨g, 0, none⟩), .int .i64 (c : Int), .func (.func 26) #[] #[]] w (lqEnd (qs B c k []) g (.slice (some ⟨b, o, none⟩) B.size cap) B.size 10 w) := by
  have hg := h.lt
  obtain ⟨i0, hi, hz0, hz1, hz2⟩ := info_parts Try.infoQuestion
  go_enter Try.func25, Try.ntmps25
  go_wp2_with fail
  go_loopw [8, 13] (fun pv iv wr => ∃ (j k' : Nat) (L : List Qn), iv = .int .i64 (j : Int) ∧ j ≤ c ∧ k' ≤ B.size ∧ L.length = j ∧ Rr wr g (.slice (some ⟨b, o, none⟩) B.size cap) k' B.size 10 ∧ w.grownBy wr (some g) ∧ wr.ownsRow w.heap.size 47 3 pv L.length (qcells L) ∧ Hid (qs B c k [] = qs B (c - j) k' L)) (fun _ iv _ => c - (intOf iv).toNat)
  case atStart => exact ⟨0, k, [], rfl, Nat.zero_le _, hk, rfl, h, grown_refl _ _, World.ownsRow_nil _ _ _ _, rfl⟩
  case round =>
    obtain ⟨j, k', L, rfl, hj, hk', hL, hr, hgr, hown, HR⟩ := hrel
    have c1 := hr.c1
    by_cases hlt : j < c
    · have HC := hide' (rquestion_any g b o cap k' B wr hr (hB.blk (hgr.block b hb (fun e => hgb (Option.some.inj e)))) (by have := hgr.size; omega) hgb hk' hS hc)
      obtain ⟨m, hm⟩ : ∃ m, c - j = m + 1 := ⟨c - j - 1, by omega⟩
      have HM := hide' hm
      clear hm
      have HOW := hide' hown
      have HLN := hide' hL
      clear hown hL
      cases hq : qr B k' with
      | error x =>
        have HX : Hid (qs B c k [] = .error (x, k')) := by unfold Hid; rw [HR.out, HM.out, qs, hq]
        have hx : ((x : Int) != 0) = true := by
          have := qr_err hq
          simp [bne_iff_ne]; omega
        rw [hq] at HC
        go_wp2_with (go_at_call 26; refine HC.out.mono ?_; rintro e w1 ⟨rfl, hg1, kx, _, hr1⟩; have HG1 := hide' hg1; have HRa := hide' (fun o => hr1.alloc o); have d1 := fun o => (HRa.out o).c1; have d2 := fun o => (HRa.out o).free 1; clear hg1 hr1)
        go_ret2
        rw [HX.out]
        exact ⟨rfl, (HRa.out _).set1 k', grown_trans (grown_trans (grown_trans hgr HG1.out) (World.grownBy_alloc _ _ _)) (grown_set _ _ _ _)⟩
      | ok r =>
        obtain ⟨⟨xn, xt, xc⟩, k2⟩ := r
        have hk2 : k2 ≤ B.size := qr_le hq
        have HX : Hid (qs B c k [] = qs B (c - (j + 1)) k2 (L ++ [⟨xn, xt, xc⟩])) := by unfold Hid; rw [HR.out, HM.out, qs, hq, show c - (j + 1) = m by have := HM.out; omega]
        rw [hq] at HC
        replace HC : Hid (Calls Try.prog 26 #[.pointer (some ⟨g, 0, none⟩)] wr fun e w' => e = .returned (.tuple #[.agg #[.string xn, .int .i64 xt, .int .i64 xc], .int .i64 0]) ∧ Rr w' g (.slice (some ⟨b, o, none⟩) B.size cap) k2 B.size 10 ∧ wr.grownBy w' (some g)) := HC.out
        go_wp2_with (first
          | (go_at_call 26; refine HC.out.mono ?_; rintro e w1 ⟨rfl, hr1, hg1⟩; have HR1 := hide' hr1; have HG1 := hide' (grown_trans hgr hg1); have HO1 := hide' (HOW.out.kept hg1 (by by_cases hv : Value.ownBlock u8 = none; exact .inl hv; exact .inr (fun e => by have := HOW.out.lt g e; omega))); clear hr1 hg1)
          | (at_builtin; refine wpList_append_own _ rfl _ _ 22 rfl w.heap.size 47 i0 (.agg #[.string ⟨#[]⟩, .int .i64 0, .int .i64 0]) 3 32 Try.underlying22 hi hz0 hz1 hz2 rfl (by decide) _ _ _ rfl ((HO1.out.alloc _).alloc _) ⟨w1.heap.size + 1, 0, none⟩ 1 1 [.string xn, .int .i64 xt, .int .i64 xc] rfl rfl (by have := row_newQ (w1.alloc (.cells #[.string xn, .int .i64 xt, .int .i64 xc] 47)) #[.string xn, .int .i64 xt, .int .i64 xc] 47; rw [World.size_alloc] at this; exact this) (by simp [Value.oneCell']) (by rw [HLN.out]; unfold maxLen; omega) (by rw [HLN.out]; omega) (by have := HG1.out.size; simp; omega) ?_; intro v6 w6 hown6 hgrow6 _; have HO6 := hide' hown6; have HG6 := hide' hgrow6; clear hown6 hgrow6))
        have hle : ∀ q, Value.ownBlock u8 = some q → w.heap.size ≤ q := fun q hq => (HO1.out.lt q hq).1
        have hs6 := HG6.out.size
        have hg6 : w.grownBy w6 (some g) := grown_step (grown_trans (grown_trans HG1.out (World.grownBy_alloc _ _ _)) (World.grownBy_alloc _ _ _)) HG6.out (fun q e => .inr (hle q e))
        have hr6 : Rr w6 g (.slice (some ⟨b, o, none⟩) B.size cap) k2 B.size 10 := (HG6.out.block g (by have := HR1.out.lt; simp; omega) (fun e => by have := hle g e.symm; omega)).trans (((World.grownBy_alloc _ _ none).block g (by have := HR1.out.lt; simp; omega) (fun e => by cases e)).trans (((World.grownBy_alloc w1 _ none).block g HR1.out.lt (fun e => by cases e)).trans HR1.out))
        go_roundw
        case rel => exact ⟨j + 1, k2, L ++ [⟨xn, xt, xc⟩], by go_num, by omega, hk2, by rw [List.length_append, HLN.out]; rfl, hr6, hg6, by rw [List.length_append, qcells_app]; exact HO6.out, HX⟩
        case measure => simp [intOf]; omega
    · have HX : Hid (qs B c k [] = .ok (L, k')) := by unfold Hid; rw [HR.out, show c - j = 0 by omega, qs]
      obtain ⟨p, cp, rfl, _⟩ := own_shape hown
      go_wp2_with fail
      go_ret2
      rw [HX.out]
      exact ⟨p, cp, rfl, hown, hr, hgr⟩
end Go.Proofs.Ytlgogddobjkngaa

namespace Go.Proofs.Ytlgogddobjkngaa
set_option linter.unusedVariables false
open Go.RowKit Go.Shelf Go.Proofs.Ytlgogddobjkngaa.Nm

theorem row_newR (w : World) (cs : Array Value) (T : TypeId) : ∀ j u, cs.toList[j]? = some u → (w.alloc (.cells cs T)).cell? ((⟨w.heap.size, 0, none⟩ : Addr).add j) = some u := by
  intro j u hj
  have ea : (⟨w.heap.size, 0, none⟩ : Addr).add j = ⟨w.heap.size, j, none⟩ := by
    unfold Addr.add; split <;> simp_all
  rw [ea]
  exact Bx.cell (World.alloc_heap_new w _) (by rw [← Array.getElem?_toList]; exact hj)
/-- records as cells -/
def renc (x : Rn) : List Value := [.string x.o, .int .i64 x.t, .int .i64 x.c, .int .i64 x.l, .string x.d]
def rcells (L : List Rn) : List Value := L.flatMap renc
theorem rcells_app (L : List Rn) (x : Rn) : rcells (L ++ [x]) = rcells L ++ renc x := by simp [rcells]
theorem Try.infoRecord : (Try.prog.info? 65).map (fun i => (i.zero, i.size, i.bytes)) = some (some (.agg #[.string ⟨#[]⟩, .int .i64 0, .int .i64 0, .int .i64 0, .string ⟨#[]⟩]), 5, 56) := by kernel_rfl
def lrEnd (r : Except (Nat × Nat) (List Rn × Nat)) (g : Nat) (V : Value) (en sh : Nat) (w : World) (e : Ending) (w' : World) : Prop := match r with
  | .ok r => ∃ p c, e = .returned (.tuple #[.slice p r.1.length c, .int .i64 0]) ∧ w'.ownsRow w.heap.size 65 5 (.slice p r.1.length c) r.1.length (rcells r.1) ∧ Rr w' g V r.2 en sh ∧ w.grownBy w' (some g)
  | .error x => e = .returned (.tuple #[.slice none 0 0, .int .i64 (x.1 : Int)]) ∧ Rr w' g V x.2 en sh ∧ w.grownBy w' (some g)

set_option maxRecDepth 100000 in
set_option maxHeartbeats 4000000 in
/-- wire.list of records -/
theorem rlist_any (g b o cap k c : Nat) (B : ByteArray) (w : World) (h : Rr w g (.slice (some ⟨b, o, none⟩) B.size cap) k B.size 10) (hB : Lib.Bytes w b o B) (hb : b < w.heap.size) (hgb : b ≠ g) (hk : k ≤ B.size) (hS : B.size ≤ 65535) (hc : B.size ≤ cap) (hcl : c ≤ 65535) :
    Calls Try.prog 27 #[.pointer (some ⟨g, 0, none⟩), .int .i64 (c : Int), .func (.func 28) #[] #[]] w (lrEnd (rs B c k []) g (.slice (some ⟨b, o, none⟩) B.size cap) B.size 10 w) := by
  have hg := h.lt
  obtain ⟨i0, hi, hz0, hz1, hz2⟩ := info_parts Try.infoRecord
  go_enter Try.func27, Try.ntmps27
  go_wp2_with fail
  go_loopw [8, 13] (fun pv iv wr => ∃ (j k' : Nat) (L : List Rn), iv = .int .i64 (j : Int) ∧ j ≤ c ∧ k' ≤ B.size ∧ L.length = j ∧ Rr wr g (.slice (some ⟨b, o, none⟩) B.size cap) k' B.size 10 ∧ w.grownBy wr (some g) ∧ wr.ownsRow w.heap.size 65 5 pv L.length (rcells L) ∧ Hid (rs B c k [] = rs B (c - j) k' L)) (fun _ iv _ => c - (intOf iv).toNat)
  case atStart => exact ⟨0, k, [], rfl, Nat.zero_le _, hk, rfl, h, grown_refl _ _, World.ownsRow_nil _ _ _ _, rfl⟩
  case round =>
    obtain ⟨j, k', L, rfl, hj, hk', hL, hr, hgr, hown, HR⟩ := hrel
    have c1 := hr.c1
    by_cases hlt : j < c
    · have HC := hide' (rrecord_any g b o cap k' B wr hr (hB.blk (hgr.block b hb (fun e => hgb (Option.some.inj e)))) (by have := hgr.size; omega) hgb hk' hS hc)
      obtain ⟨m, hm⟩ : ∃ m, c - j = m + 1 := ⟨c - j - 1, by omega⟩
      have HM := hide' hm
      clear hm
      have HOW := hide' hown
      have HLN := hide' hL
      clear hown hL
      cases hq : rr B k' with
      | error x =>
        have HX : Hid (rs B c k [] = .error (x, k')) := by unfold Hid; rw [HR.out, HM.out, rs, hq]
        have hx : ((x : Int) != 0) = true := by
          have := rr_err hq
          simp [bne_iff_ne]; omega
        rw [hq] at HC
        go_wp2_with (go_at_call 28; refine HC.out.mono ?_; rintro e w1 ⟨rfl, hg1, kx, _, hr1⟩; have HG1 := hide' hg1; have HRa := hide' (fun o => hr1.alloc o); have d1 := fun o => (HRa.out o).c1; have d2 := fun o => (HRa.out o).free 1; clear hg1 hr1)
        go_ret2
        rw [HX.out]
        exact ⟨rfl, (HRa.out _).set1 k', grown_trans (grown_trans (grown_trans hgr HG1.out) (World.grownBy_alloc _ _ _)) (grown_set _ _ _ _)⟩
      | ok r =>
        obtain ⟨⟨xo, xt, xc, xl, xd⟩, k2⟩ := r
        have hk2 : k2 ≤ B.size := rr_le hq
        have HX : Hid (rs B c k [] = rs B (c - (j + 1)) k2 (L ++ [⟨xo, xt, xc, xl, xd⟩])) := by unfold Hid; rw [HR.out, HM.out, rs, hq, show c - (j + 1) = m by have := HM.out; omega]
        rw [hq] at HC
        replace HC : Hid (Calls Try.prog 28 #[.pointer (some ⟨g, 0, none⟩)] wr fun e w' => e = .returned (.tuple #[.agg #[.string xo, .int .i64 xt, .int .i64 xc, .int .i64 xl, .string xd], .int .i64 0]) ∧ Rr w' g (.slice (some ⟨b, o, none⟩) B.size cap) k2 B.size 10 ∧ wr.grownBy w' (some g)) := HC.out
        go_wp2_with (first
          | (go_at_call 28; refine HC.out.mono ?_; rintro e w1 ⟨rfl, hr1, hg1⟩; have HR1 := hide' hr1; have HG1 := hide' (grown_trans hgr hg1); have HO1 := hide' (HOW.out.kept hg1 (by by_cases hv : Value.ownBlock u8 = none; exact .inl hv; exact .inr (fun e => by have := HOW.out.lt g e; omega))); clear hr1 hg1)
          | (at_builtin; refine wpList_append_own _ rfl _ _ 23 rfl w.heap.size 65 i0 (.agg #[.string ⟨#[]⟩, .int .i64 0, .int .i64 0, .int .i64 0, .string ⟨#[]⟩]) 5 56 Try.underlying23 hi hz0 hz1 hz2 rfl (by decide) _ _ _ rfl ((HO1.out.alloc _).alloc _) ⟨w1.heap.size + 1, 0, none⟩ 1 1 [.string xo, .int .i64 xt, .int .i64 xc, .int .i64 xl, .string xd] rfl rfl (by have := row_newR (w1.alloc (.cells #[.string xo, .int .i64 xt, .int .i64 xc, .int .i64 xl, .string xd] 65)) #[.string xo, .int .i64 xt, .int .i64 xc, .int .i64 xl, .string xd] 65; rw [World.size_alloc] at this; exact this) (by simp [Value.oneCell']) (by rw [HLN.out]; unfold maxLen; omega) (by rw [HLN.out]; omega) (by have := HG1.out.size; simp; omega) ?_; intro v6 w6 hown6 hgrow6 _; have HO6 := hide' hown6; have HG6 := hide' hgrow6; clear hown6 hgrow6))
        have hle : ∀ q, Value.ownBlock u8 = some q → w.heap.size ≤ q := fun q hq => (HO1.out.lt q hq).1
        have hs6 := HG6.out.size
        have hg6 : w.grownBy w6 (some g) := grown_step (grown_trans (grown_trans HG1.out (World.grownBy_alloc _ _ _)) (World.grownBy_alloc _ _ _)) HG6.out (fun q e => .inr (hle q e))
        have hr6 : Rr w6 g (.slice (some ⟨b, o, none⟩) B.size cap) k2 B.size 10 := (HG6.out.block g (by have := HR1.out.lt; simp; omega) (fun e => by have := hle g e.symm; omega)).trans (((World.grownBy_alloc _ _ none).block g (by have := HR1.out.lt; simp; omega) (fun e => by cases e)).trans (((World.grownBy_alloc w1 _ none).block g HR1.out.lt (fun e => by cases e)).trans HR1.out))
        go_roundw
        case rel => exact ⟨j + 1, k2, L ++ [⟨xo, xt, xc, xl, xd⟩], by go_num, by omega, hk2, by rw [List.length_append, HLN.out]; rfl, hr6, hg6, by rw [List.length_append, rcells_app]; exact HO6.out, HX⟩
        case measure => simp [intOf]; omega
    · have HX : Hid (rs B c k [] = .ok (L, k')) := by unfold Hid; rw [HR.out, show c - j = 0 by omega, rs]
      obtain ⟨p, cp, rfl, _⟩ := own_shape hown
      go_wp2_with fail
      go_ret2
      rw [HX.out]
      exact ⟨p, cp, rfl, hown, hr, hgr⟩
end Go.Proofs.Ytlgogddobjkngaa
