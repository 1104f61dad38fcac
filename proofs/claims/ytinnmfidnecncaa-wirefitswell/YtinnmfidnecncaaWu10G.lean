import Derived.Test.YtinnmfidnecncaaWu9
import Derived.Test.YtinnmfidnecncaaWu12G
namespace Go.Proofs.Ytinnmfidnecncaa
set_option linter.unusedVariables false
open Go.RowKit Go.Shelf Go.Proofs.Ytinnmfidnecncaa.Nm

theorem row_newQ (w : World) (cs : Array Value) (T : TypeId) : ∀ j u, cs.toList[j]? = some u → (w.alloc (.cells cs T)).cell? ((⟨w.heap.size, 0, none⟩ : Addr).add j) = some u := by
  intro j u hj
  have ea : (⟨w.heap.size, 0, none⟩ : Addr).add j = ⟨w.heap.size, j, none⟩ := by
    unfold Addr.add; split <;> simp_all
  rw [ea]
  exact Bx.cell (World.alloc_heap_new w _) (by rw [← Array.getElem?_toList]; exact hj)
theorem Rr.alloc {w : World} {g : Nat} {v : Value} {k en sh : Nat} (h : Rr w g v k en sh) (o : Obj) : Rr (w.alloc o) g v k en sh := ((World.grownBy_alloc w o none).block g h.lt (fun e => by cases e)).trans h
/-- questions as cells -/
def qenc (x : Qn) : List Value := [.string x.n, .int .i64 x.t, .int .i64 x.c]
def qcells (L : List Qn) : List Value := L.flatMap qenc
theorem qcells_app (L : List Qn) (x : Qn) : qcells (L ++ [x]) = qcells L ++ qenc x := by simp [qcells]
theorem Try.infoQuestion : (Try.prog.info? 51).map (fun i => (i.zero, i.size, i.bytes)) = some (some (.agg #[.string ⟨#[]⟩, .int .i64 0, .int .i64 0]), 3, 32) := by kernel_rfl
def lqEnd (r : Except (Nat × Nat) (List Qn × Nat)) (g : Nat) (V : Value) (en sh : Nat) (w : World) (e : Ending) (w' : World) : Prop := match r with
  | .ok r => ∃ p c, e = .returned (.tuple #[.slice p r.1.length c, .int .i64 0]) ∧ w'.ownsRow w.heap.size 51 3 (.slice p r.1.length c) r.1.length (qcells r.1) ∧ Rr w' g V r.2 en sh ∧ w.grownBy w' (some g)
  | .error x => e = .returned (.tuple #[.slice none 0 0, .int .i64 (x.1 : Int)]) ∧ Rr w' g V x.2 en sh ∧ w.grownBy w' (some g)

set_option maxRecDepth 100000 in
set_option maxHeartbeats 4000000 in
/-- wire.list of questions -/
theorem qlist_any (g b o cap k c : Nat) (B : ByteArray) (w : World) (h : Rr w g (.slice (some ⟨b, o, none⟩) B.size cap) k B.size 10) (hB : Lib.Bytes w b o B) (hb : b < w.heap.size) (hgb : b ≠ g) (hk : k ≤ B.size) (hS : B.size ≤ 65535) (hc : B.size ≤ cap) (hcl : c ≤ 65535) :
    Calls Try.prog 30 #[.pointer (some ⟨g, 0, none⟩), .int .i64 (c : Int), .func (.func 31) #[] #[]] w (lqEnd (qs B c k []) g (.slice (some ⟨b, o, none⟩) B.size cap) B.size 10 w) := by
  have hg := h.lt
  obtain ⟨i0, hi, hz0, hz1, hz2⟩ := info_parts Try.infoQuestion
  go_enter Try.func30, Try.ntmps30
  go_wp2_with fail
  go_loopw [8, 13] (fun pv iv wr => ∃ (j k' : Nat) (L : List Qn), iv = .int .i64 (j : Int) ∧ j ≤ c ∧ k' ≤ B.size ∧ L.length = j ∧ Rr wr g (.slice (some ⟨b, o, none⟩) B.size cap) k' B.size 10 ∧ w.grownBy wr (some g) ∧ wr.ownsRow w.heap.size 51 3 pv L.length (qcells L) ∧ Hid (qs B c k [] = qs B (c - j) k' L)) (fun _ iv _ => c - (intOf iv).toNat)
  case atStart => exact ⟨0, k, [], rfl, Nat.zero_le _, hk, rfl, h, grown_refl _ _, World.ownsRow_nil _ _ _ _, rfl⟩
  case round =>
    obtain ⟨j, k', L, rfl, hj, hk', hL, hr, hgr, hown, HR⟩ := hrel
    have c1 := hr.c1
    by_cases hlt : j < c
    · have HC := hide' (rquestion_any g b o cap k' B wr hr (hB.blk (hgr.block b hb (fun e => hgb (Option.some.inj e)))) (by have := hgr.size; omega) hgb hk' hS hc)
      obtain ⟨m, hm⟩ : ∃ m, c - j = m + 1 := ⟨c - j - 1, by omega⟩
      have HM := hide' hm
      clear hm
      have HOW := hide' hown
      have HLN := hide' hL
      clear hown hL
      cases hq : qr B k' with
      | error x =>
        have HX : Hid (qs B c k [] = .error (x, k')) := by unfold Hid; rw [HR.out, HM.out, qs, hq]
        have hx : ((x : Int) != 0) = true := by
          have := qr_err hq
          simp [bne_iff_ne]; omega
        rw [hq] at HC
        go_wp2_with (go_at_call 31; refine HC.out.mono ?_; rintro e w1 ⟨rfl, hg1, kx, _, hr1⟩; have HG1 := hide' hg1; have HRa := hide' (fun o => hr1.alloc o); have d1 := fun o => (HRa.out o).c1; have d2 := fun o => (HRa.out o).free 1; clear hg1 hr1)
        go_ret2
        rw [HX.out]
        exact ⟨rfl, (HRa.out _).set1 k', grown_trans (grown_trans (grown_trans hgr HG1.out) (World.grownBy_alloc _ _ _)) (grown_set _ _ _ _)⟩
      | ok r =>
        obtain ⟨⟨xn, xt, xc⟩, k2⟩ := r
        have hk2 : k2 ≤ B.size := qr_le hq
        have HX : Hid (qs B c k [] = qs B (c - (j + 1)) k2 (L ++ [⟨xn, xt, xc⟩])) := by unfold Hid; rw [HR.out, HM.out, qs, hq, show c - (j + 1) = m by have := HM.out; omega]
        rw [hq] at HC
        replace HC : Hid (Calls Try.prog 31 #[.pointer (some ⟨g, 0, none⟩)] wr fun e w' => e = .returned (.tuple #[.agg #[.string xn, .int .i64 xt, .int .i64 xc], .int .i64 0]) ∧ Rr w' g (.slice (some ⟨b, o, none⟩) B.size cap) k2 B.size 10 ∧ wr.grownBy w' (some g)) := HC.out
        go_wp2_with (first
          | (go_at_call 31; refine HC.out.mono ?_; rintro e w1 ⟨rfl, hr1, hg1⟩; have HR1 := hide' hr1; have HG1 := hide' (grown_trans hgr hg1); have HO1 := hide' (HOW.out.kept hg1 (by by_cases hv : Value.ownBlock u8 = none; exact .inl hv; exact .inr (fun e => by have := HOW.out.lt g e; omega))); clear hr1 hg1)
          | (at_builtin; refine wpList_append_own _ rfl _ _ 22 rfl w.heap.size 51 i0 (.agg #[.string ⟨#[]⟩, .int .i64 0, .int .i64 0]) 3 32 Try.underlying22 hi hz0 hz1 hz2 rfl (by decide) _ _ _ rfl ((HO1.out.alloc _).alloc _) ⟨w1.heap.size + 1, 0, none⟩ 1 1 [.string xn, .int .i64 xt, .int .i64 xc] rfl rfl (by have := row_newQ (w1.alloc (.cells #[.string xn, .int .i64 xt, .int .i64 xc] 51)) #[.string xn, .int .i64 xt, .int .i64 xc] 51; rw [World.size_alloc] at this; exact this) (by simp [Value.oneCell']) (by rw [HLN.out]; unfold maxLen; omega) (by rw [HLN.out]; omega) (by have := HG1.out.size; simp; omega) ?_; intro v6 w6 hown6 hgrow6 _; have HO6 := hide' hown6; have HG6 := hide' hgrow6; clear hown6 hgrow6))
        have hle : ∀ q, Value.ownBlock u8 = some q → w.heap.size ≤ q := fun q hq => (HO1.out.lt q hq).1
        have hs6 := HG6.out.size
        have hg6 : w.grownBy w6 (some g) := grown_step (grown_trans (grown_trans HG1.out (World.grownBy_alloc _ _ _)) (World.grownBy_alloc _ _ _)) HG6.out (fun q e => .inr (hle q e))
        have hr6 : Rr w6 g (.slice (some ⟨b, o, none⟩) B.size cap) k2 B.size 10 := (HG6.out.block g (by have := HR1.out.lt; simp; omega) (fun e => by have := hle g e.symm; omega)).trans (((World.grownBy_alloc _ _ none).block g (by have := HR1.out.lt; simp; omega) (fun e => by cases e)).trans (((World.grownBy_alloc w1 _ none).block g HR1.out.lt (fun e => by cases e)).trans HR1.out))
        go_roundw
        case rel => exact ⟨j + 1, k2, L ++ [⟨xn, xt, xc⟩], by go_num, by omega, hk2, by rw [List.length_append, HLN.out]; rfl, hr6, hg6, by rw [List.length_append, qcells_app]; exact HO6.out, HX⟩
        case measure => simp [intOf]; omega
    · have HX : Hid (qs B c k [] = .ok (L, k')) := by unfold Hid; rw [HR.out, show c - j = 0 by omega, qs]
      obtain ⟨p, cp, rfl, _⟩ := own_shape hown
      go_wp2_with fail
      go_ret2
      rw [HX.out]
      exact ⟨p, cp, rfl, hown, hr, hgr⟩
end Go.Proofs.Ytinnmfidnecncaa

namespace Go.Proofs.Ytinnmfidnecncaa
set_option linter.unusedVariables false
open Go.RowKit Go.Shelf Go.Proofs.Ytinnmfidnecncaa.Nm

theorem row_newR (w : World) (cs : Array Value) (T : TypeId) : ∀ j u, cs.toList[j]? = some u → (w.alloc (.cells cs T)).cell? ((⟨w.heap.size, 0, none⟩ : Addr).add j) = some u := by
  intro j u hj
  have ea : (⟨w.heap.size, 0, none⟩ : Addr).add j = ⟨w.heap.size, j, none⟩ := by
    unfold Addr.add; split <;> simp_all
  rw [ea]
  exact Bx.cell (World.alloc_heap_new w _) (by rw [← Array.getElem?_toList]; exact hj)
/-- records as cells -/
def renc (x : Rn) : List Value := [.string x.o, .int .i64 x.t, .int .i64 x.c, .int .i64 x.l, .string x.d]
def rcells (L : List Rn) : List Value := L.flatMap renc
theorem rcells_app (L : List Rn) (x : Rn) : rcells (L ++ [x]) = rcells L ++ renc x := by simp [rcells]
theorem Try.infoRecord : (Try.prog.info? 70).map (fun i => (i.zero, i.size, i.bytes)) = some (some (.agg #[.string ⟨#[]⟩, .int .i64 0, .int .i64 0, .int .i64 0, .string ⟨#[]⟩]), 5, 56) := by kernel_rfl
def lrEnd (r : Except (Nat × Nat) (List Rn × Nat)) (g : Nat) (V : Value) (en sh : Nat) (w : World) (e : Ending) (w' : World) : Prop := match r with
  | .ok r => ∃ p c, e = .returned (.tuple #[.slice p r.1.length c, .int .i64 0]) ∧ w'.ownsRow w.heap.size 70 5 (.slice p r.1.length c) r.1.length (rcells r.1) ∧ Rr w' g V r.2 en sh ∧ w.grownBy w' (some g)
  | .error x => e = .returned (.tuple #[.slice none 0 0, .int .i64 (x.1 : Int)]) ∧ Rr w' g V x.2 en sh ∧ w.grownBy w' (some g)

set_option maxRecDepth 100000 in
set_option maxHeartbeats 4000000 in
/-- wire.list of records -/
theorem rlist_any (g b o cap k c : Nat) (B : ByteArray) (w : World) (h : Rr w g (.slice (some ⟨b, o, none⟩) B.size cap) k B.size 10) (hB : Lib.Bytes w b o B) (hb : b < w.heap.size) (hgb : b ≠ g) (hk : k ≤ B.size) (hS : B.size ≤ 65535) (hc : B.size ≤ cap) (hcl : c ≤ 65535) :
    Calls Try.prog 32 #[.pointer (some ⟨g, 0, none⟩), .int .i64 (c : Int), .func (.func 33) #[] #[]] w (lrEnd (rs B c k []) g (.slice (some ⟨b, o, none⟩) B.size cap) B.size 10 w) := by
  have hg := h.lt
  obtain ⟨i0, hi, hz0, hz1, hz2⟩ := info_parts Try.infoRecord
  go_enter Try.func32, Try.ntmps32
  go_wp2_with fail
  go_loopw [8, 13] (fun pv iv wr => ∃ (j k' : Nat) (L : List Rn), iv = .int .i64 (j : Int) ∧ j ≤ c ∧ k' ≤ B.size ∧ L.length = j ∧ Rr wr g (.slice (some ⟨b, o, none⟩) B.size cap) k' B.size 10 ∧ w.grownBy wr (some g) ∧ wr.ownsRow w.heap.size 70 5 pv L.length (rcells L) ∧ Hid (rs B c k [] = rs B (c - j) k' L)) (fun _ iv _ => c - (intOf iv).toNat)
  case atStart => exact ⟨0, k, [], rfl, Nat.zero_le _, hk, rfl, h, grown_refl _ _, World.ownsRow_nil _ _ _ _, rfl⟩
  case round =>
    obtain ⟨j, k', L, rfl, hj, hk', hL, hr, hgr, hown, HR⟩ := hrel
    have c1 := hr.c1
    by_cases hlt : j < c
    · have HC := hide' (rrecord_any g b o cap k' B wr hr (hB.blk (hgr.block b hb (fun e => hgb (Option.some.inj e)))) (by have := hgr.size; omega) hgb hk' hS hc)
      obtain ⟨m, hm⟩ : ∃ m, c - j = m + 1 := ⟨c - j - 1, by omega⟩
      have HM := hide' hm
      clear hm
      have HOW := hide' hown
      have HLN := hide' hL
      clear hown hL
      cases hq : rr B k' with
      | error x =>
        have HX : Hid (rs B c k [] = .error (x, k')) := by unfold Hid; rw [HR.out, HM.out, rs, hq]
        have hx : ((x : Int) != 0) = true := by
          have := rr_err hq
          simp [bne_iff_ne]; omega
        rw [hq] at HC
        go_wp2_with (go_at_call 33; refine HC.out.mono ?_; rintro e w1 ⟨rfl, hg1, kx, _, hr1⟩; have HG1 := hide' hg1; have HRa := hide' (fun o => hr1.alloc o); have d1 := fun o => (HRa.out o).c1; have d2 := fun o => (HRa.out o).free 1; clear hg1 hr1)
        go_ret2
        rw [HX.out]
        exact ⟨rfl, (HRa.out _).set1 k', grown_trans (grown_trans (grown_trans hgr HG1.out) (World.grownBy_alloc _ _ _)) (grown_set _ _ _ _)⟩
      | ok r =>
        obtain ⟨⟨xo, xt, xc, xl, xd⟩, k2⟩ := r
        have hk2 : k2 ≤ B.size := rr_le hq
        have HX : Hid (rs B c k [] = rs B (c - (j + 1)) k2 (L ++ [⟨xo, xt, xc, xl, xd⟩])) := by unfold Hid; rw [HR.out, HM.out, rs, hq, show c - (j + 1) = m by have := HM.out; omega]
        rw [hq] at HC
        replace HC : Hid (Calls Try.prog 33 #[.pointer (some ⟨g, 0, none⟩)] wr fun e w' => e = .returned (.tuple #[.agg #[.string xo, .int .i64 xt, .int .i64 xc, .int .i64 xl, .string xd], .int .i64 0]) ∧ Rr w' g (.slice (some ⟨b, o, none⟩) B.size cap) k2 B.size 10 ∧ wr.grownBy w' (some g)) := HC.out
        go_wp2_with (first
          | (go_at_call 33; refine HC.out.mono ?_; rintro e w1 ⟨rfl, hr1, hg1⟩; have HR1 := hide' hr1; have HG1 := hide' (grown_trans hgr hg1); have HO1 := hide' (HOW.out.kept hg1 (by by_cases hv : Value.ownBlock u8 = none; exact .inl hv; exact .inr (fun e => by have := HOW.out.lt g e; omega))); clear hr1 hg1)
          | (at_builtin; refine wpList_append_own _ rfl _ _ 23 rfl w.heap.size 70 i0 (.agg #[.string ⟨#[]⟩, .int .i64 0, .int .i64 0, .int .i64 0, .string ⟨#[]⟩]) 5 56 Try.underlying23 hi hz0 hz1 hz2 rfl (by decide) _ _ _ rfl ((HO1.out.alloc _).alloc _) ⟨w1.heap.size + 1, 0, none⟩ 1 1 [.string xo, .int .i64 xt, .int .i64 xc, .int .i64 xl, .string xd] rfl rfl (by have := row_newR (w1.alloc (.cells #[.string xo, .int .i64 xt, .int .i64 xc, .int .i64 xl, .string xd] 70)) #[.string xo, .int .i64 xt, .int .i64 xc, .int .i64 xl, .string xd] 70; rw [World.size_alloc] at this; exact this) (by simp [Value.oneCell']) (by rw [HLN.out]; unfold maxLen; omega) (by rw [HLN.out]; omega) (by have := HG1.out.size; simp; omega) ?_; intro v6 w6 hown6 hgrow6 _; have HO6 := hide' hown6; have HG6 := hide' hgrow6; clear hown6 hgrow6))
        have hle : ∀ q, Value.ownBlock u8 = some q → w.heap.size ≤ q := fun q hq => (HO1.out.lt q hq).1
        have hs6 := HG6.out.size
        have hg6 : w.grownBy w6 (some g) := grown_step (grown_trans (grown_trans HG1.out (World.grownBy_alloc _ _ _)) (World.grownBy_alloc _ _ _)) HG6.out (fun q e => .inr (hle q e))
        have hr6 : Rr w6 g (.slice (some ⟨b, o, none⟩) B.size cap) k2 B.size 10 := (HG6.out.block g (by have := HR1.out.lt; simp; omega) (fun e => by have := hle g e.symm; omega)).trans (((World.grownBy_alloc _ _ none).block g (by have := HR1.out.lt; simp; omega) (fun e => by cases e)).trans (((World.grownBy_alloc w1 _ none).block g HR1.out.lt (fun e => by cases e)).trans HR1.out))
        go_roundw
        case rel => exact ⟨j + 1, k2, L ++ [⟨xo, xt, xc, xl, xd⟩], by go_num, by omega, hk2, by rw [List.length_append, HLN.out]; rfl, hr6, hg6, by rw [List.length_append, rcells_app]; exact HO6.out, HX⟩
        case measure => simp [intOf]; omega
    · have HX : Hid (rs B c k [] = .ok (L, k')) := by unfold Hid; rw [HR.out, show c - j = 0 by omega, rs]
      obtain ⟨p, cp, rfl, _⟩ := own_shape hown
      go_wp2_with fail
      go_ret2
      rw [HX.out]
      exact ⟨p, cp, rfl, hown, hr, hgr⟩
end Go.Proofs.Ytinnmfidnecncaa

namespace Go.Proofs.Ytinnmfidnecncaa
set_option linter.unusedVariables false
open Go.RowKit Go.Shelf Go.Proofs.Ytinnmfidnecncaa.Nm

/-- blocks G and M may turn, others that are there don't -/
structure Gr2 (w w' : World) (G M : Nat) : Prop where
  os : w'.os = w.os
  tape : w'.tape = w.tape
  output : w'.output = w.output
  size : w.heap.size ≤ w'.heap.size
  block : ∀ k, k < w.heap.size → k ≠ G → k ≠ M → w'.heap[k]? = w.heap[k]?
theorem Gr2.refl (w : World) (G M : Nat) : Gr2 w w G M := ⟨rfl, rfl, rfl, Nat.le_refl _, fun _ _ _ _ => rfl⟩
theorem Gr2.step {w w1 w2 : World} {G M : Nat} {r : Option Nat} (h : Gr2 w w1 G M) (k : w1.grownBy w2 r) (hr : ∀ q, r = some q → q = G ∨ q = M ∨ w.heap.size ≤ q) : Gr2 w w2 G M :=
  ⟨k.os.trans h.os, k.tape.trans h.tape, k.output.trans h.output, Nat.le_trans h.size k.size, fun j hj h1 h2 => (k.block j (Nat.lt_of_lt_of_le hj h.size) (fun e => by
    rcases hr j e.symm with h3 | h3 | h3
    · exact h1 h3
    · exact h2 h3
    · omega)).trans (h.block j hj h1 h2)⟩
theorem Gr2.below {w w' : World} {G M n : Nat} (h : Gr2 w w' G M) (hG : n ≤ G) (hM : n ≤ M) (hn : n ≤ w.heap.size) : Below n w w' := ⟨h.os, h.tape, h.output, h.size, fun k hk => h.block k (by omega) (by omega) (by omega)⟩

def pe4 (B : ByteArray) (q : List Qn) (a u d : List Rn) (k : Nat) : Except (Nat × Nat) Ls := if k < B.size then .error (11, k) else .ok ⟨q, a, u, d⟩
def pd4 (B : ByteArray) (q : List Qn) (a u : List Rn) (k : Nat) : Except (Nat × Nat) Ls := match rs B (be B 10 2) k [] with
  | .error e => .error e
  | .ok d => pe4 B q a u d.1 d.2
def pu4 (B : ByteArray) (q : List Qn) (a : List Rn) (k : Nat) : Except (Nat × Nat) Ls := match rs B (be B 8 2) k [] with
  | .error e => .error e
  | .ok u => pd4 B q a u.1 u.2
def pa4 (B : ByteArray) (q : List Qn) (k : Nat) : Except (Nat × Nat) Ls := match rs B (be B 6 2) k [] with
  | .error e => .error e
  | .ok a => pu4 B q a.1 a.2
theorem parts4_eq (B : ByteArray) : parts4 B = match qs B (be B 4 2) 12 [] with | .error e => .error e | .ok q => pa4 B q.1 q.2 := rfl
theorem qs_le {B : ByteArray} : ∀ (c k : Nat) (L : List Qn) (r : List Qn × Nat), k ≤ B.size → qs B c k L = .ok r → r.2 ≤ B.size ∧ r.1.length = L.length + c
  | 0, k, L, r, hk, h => by cases h; exact ⟨hk, rfl⟩
  | c + 1, k, L, r, hk, h => by
    unfold qs at h
    split at h
    · cases h
    · rename_i x hx
      have := qs_le c _ _ r (qr_le (q := x.1) (k1 := x.2) hx) h
      simp at this
      exact ⟨this.1, by omega⟩
theorem rs_le {B : ByteArray} : ∀ (c k : Nat) (L : List Rn) (r : List Rn × Nat), k ≤ B.size → rs B c k L = .ok r → r.2 ≤ B.size ∧ r.1.length = L.length + c
  | 0, k, L, r, hk, h => by cases h; exact ⟨hk, rfl⟩
  | c + 1, k, L, r, hk, h => by
    unfold rs at h
    split at h
    · cases h
    · rename_i x hx
      have := rs_le c _ _ r (rr_le (q := x.1) (k1 := x.2) hx) h
      simp at this
      exact ⟨this.1, by omega⟩
theorem qs_err {B : ByteArray} : ∀ (c k : Nat) (L : List Qn) (x : Nat × Nat), k ≤ B.size → qs B c k L = .error x → x.1 ≠ 0 ∧ x.2 ≤ B.size
  | 0, k, L, x, hk, h => by cases h
  | c + 1, k, L, x, hk, h => by
    unfold qs at h
    split at h
    · rename_i e he; cases h; exact ⟨qr_err he, hk⟩
    · rename_i y hy
      exact qs_err c _ _ x (qr_le (q := y.1) (k1 := y.2) hy) h
theorem rs_err {B : ByteArray} : ∀ (c k : Nat) (L : List Rn) (x : Nat × Nat), k ≤ B.size → rs B c k L = .error x → x.1 ≠ 0 ∧ x.2 ≤ B.size
  | 0, k, L, x, hk, h => by cases h
  | c + 1, k, L, x, hk, h => by
    unfold rs at h
    split at h
    · rename_i e he; cases h; exact ⟨rr_err he, hk⟩
    · rename_i y hy
      exact rs_err c _ _ x (rr_le (q := y.1) (k1 := y.2) hy) h

/-- two rows lie apart -/
def Apart (a b : Value) : Prop := ∀ x, a.ownBlock = some x → b.ownBlock ≠ some x
/-- the lists of a message in memory -/
structure Mg4 (w : World) (n : Nat) (vq va vu vd : Value) (ls : Ls) : Prop where
  q : w.ownsRow n 51 3 vq ls.q.length (qcells ls.q)
  a : w.ownsRow n 70 5 va ls.a.length (rcells ls.a)
  u : w.ownsRow n 70 5 vu ls.u.length (rcells ls.u)
  d : w.ownsRow n 70 5 vd ls.d.length (rcells ls.d)
  qa : Apart vq va
  qu : Apart vq vu
  qd : Apart vq vd
  au : Apart va vu
  ad : Apart va vd
  ud : Apart vu vd
theorem apart_nil (v : Value) : Apart v (.slice none 0 0) := fun x _ e => by cases e
theorem own_low {w : World} {n n2 e size k : Nat} {v : Value} {xs : List Value} (h : w.ownsRow n2 e size v k xs) (hn : n ≤ n2) : w.ownsRow n e size v k xs := by
  obtain ⟨hl, (h0 | ⟨g, cap, cur, rfl, hg, rest⟩)⟩ := h
  · exact ⟨hl, .inl h0⟩
  · exact ⟨hl, .inr ⟨g, cap, cur, rfl, Nat.le_trans hn hg, rest⟩⟩
theorem own_keep {w w' : World} {n e size k : Nat} {v : Value} {xs : List Value} {r : Option Nat} (h : w.ownsRow n e size v k xs) (hg : w.grownBy w' r) (hr : ∀ q, r = some q → q < n) : w'.ownsRow n e size v k xs := by
  refine h.kept hg ?_
  by_cases hv : v.ownBlock = none
  · exact .inl hv
  · right
    intro he
    cases r with
    | none => exact hv he
    | some q => have := h.lt q he; have := hr q rfl; omega
theorem Mg4.keep {w w' : World} {n : Nat} {vq va vu vd : Value} {ls : Ls} {r : Option Nat} (h : Mg4 w n vq va vu vd ls) (hg : w.grownBy w' r) (hr : ∀ q, r = some q → q < n) : Mg4 w' n vq va vu vd ls :=
  ⟨own_keep h.q hg hr, own_keep h.a hg hr, own_keep h.u hg hr, own_keep h.d hg hr, h.qa, h.qu, h.qd, h.au, h.ad, h.ud⟩
/-- a row of the newest is apart from an elder one -/
theorem apart_new {w w' : World} {n m e1 s1 k1 e2 s2 k2 : Nat} {v1 v2 : Value} {x1 x2 : List Value} (h1 : w.ownsRow n e1 s1 v1 k1 x1) (h2 : w'.ownsRow m e2 s2 v2 k2 x2) (hm : w.heap.size ≤ m) : Apart v1 v2 := fun x hx hy => by
  have := h1.lt x hx
  have := h2.lt x hy
  omega
end Go.Proofs.Ytinnmfidnecncaa

namespace Go.Proofs.Ytinnmfidnecncaa
set_option linter.unusedVariables false
open Go.RowKit Go.Shelf Go.Proofs.Ytinnmfidnecncaa.Nm

/-- a message's head and its lists, as cells -/
def mcs (id op rc v : Nat) (vq va vu vd : Value) : Array Value := #[.int .i64 (id : Int), .bool (sg v 15), .int .i64 (op : Int), .bool (sg v 10), .bool (sg v 9), .bool (sg v 8), .bool (sg v 7), .bool (sg v 5), .bool (sg v 4), .int .i64 (rc : Int), vq, va, vu, vd]
/-- parts under way -/
structure Pst (w wr : World) (G M b o cap : Nat) (B : ByteArray) (id op rc v k : Nat) (vq va vu vd : Value) (ls : Ls) : Prop where
  rd : Rr wr G (.slice (some ⟨b, o, none⟩) B.size cap) k B.size 10
  kl : k ≤ B.size
  bx : Bx wr M (mcs id op rc v vq va vu vd) 25
  hd : Bx wr w.heap.size (h12 B) 54
  gr : Gr2 w wr G M
  rows : Mg4 wr (w.heap.size + 1) vq va vu vd ls
  by_ : Lib.Bytes wr b o B
  sz : w.heap.size + 1 ≤ wr.heap.size
  Gl : G < w.heap.size
  Ml : M < w.heap.size
  bl : b < w.heap.size
  GM : G ≠ M
  bG : b ≠ G
  bM : b ≠ M
theorem below_quiet {w : World} (m : Nat) : Below w.heap.size w (w.drewN m) := ⟨rfl, rfl, rfl, Nat.le_refl _, fun _ _ => rfl⟩
section
variable {w wr w2 : World} {G M b o cap : Nat} {B : ByteArray} {id op rc v k k2 : Nat} {vq va vu vd : Value} {ls : Ls}
theorem Pst.move (h : Pst w wr G M b o cap B id op rc v k vq va vu vd ls) (hr : Rr w2 G (.slice (some ⟨b, o, none⟩) B.size cap) k2 B.size 10) (hk : k2 ≤ B.size) (hg : wr.grownBy w2 (some G)) : Pst w w2 G M b o cap B id op rc v k2 vq va vu vd ls := by
  have h1 := h.Gl
  have h2 := h.Ml
  have h3 := h.bl
  have h4 := h.sz
  have h5 := h.GM
  have h6 := h.bG
  exact ⟨hr, hk, h.bx.grown hg (fun e => by injection e; omega), h.hd.grown hg (fun e => by injection e; omega), h.gr.step hg (fun q e => .inl (by injection e; omega)), h.rows.keep hg (fun q e => by injection e; omega), h.by_.blk (hg.block b (by omega) (fun e => h6 (Option.some.inj e))), Nat.le_trans h4 hg.size, h1, h2, h3, h5, h6, h.bM⟩
theorem Pst.low (h : Pst w wr G M b o cap B id op rc v k vq va vu vd ls) (hb : Below wr.heap.size wr w2) : Pst w w2 G M b o cap B id op rc v k vq va vu vd ls := by
  have h1 := h.Gl
  have h2 := h.Ml
  have h3 := h.bl
  have h4 := h.sz
  have hg := grown_below hb none
  exact ⟨h.rd.below hb, h.kl, h.bx.below hb h.bx.lt, h.hd.below hb h.hd.lt, h.gr.step hg (fun q e => by cases e), h.rows.keep hg (fun q e => by cases e), h.by_.blk (hb.block b (by omega)), Nat.le_trans h4 hb.size, h1, h2, h3, h.GM, h.bG, h.bM⟩
/-- a list is stored -/
theorem Pst.put (h : Pst w wr G M b o cap B id op rc v k vq va vu vd ls) (j : Nat) (u : Value) {vq2 va2 vu2 vd2 : Value} {ls2 : Ls} (hb : (mcs id op rc v vq va vu vd).setIfInBounds j u = mcs id op rc v vq2 va2 vu2 vd2) (hm : Mg4 wr (w.heap.size + 1) vq2 va2 vu2 vd2 ls2) : Pst w (wr.setCell ⟨M, j, none⟩ u) G M b o cap B id op rc v k vq2 va2 vu2 vd2 ls2 := by
  have h1 := h.Gl
  have h2 := h.Ml
  have h3 := h.bl
  have h4 := h.sz
  have h5 := h.GM
  have h6 := h.bM
  have hg := grown_set wr M j u
  exact ⟨h.rd.far (by omega) _ _, h.kl, hb ▸ h.bx.set j u, h.hd.far (by omega) _ _, h.gr.step hg (fun q e => .inr (.inl (by injection e; omega))), hm.keep hg (fun q e => by injection e; omega), h.by_.blk (hg.block b (by omega) (fun e => h6 (Option.some.inj e))), by rw [set_size]; exact h4, h1, h2, h3, h5, h.bG, h6⟩
end
def ptEnd (r : Except (Nat × Nat) Ls) (G M b o cap : Nat) (B : ByteArray) (id op rc v : Nat) (w : World) (e : Ending) (w' : World) : Prop := match r with
  | .ok ls => ∃ vq va vu vd k, e = .returned (.int .i64 0) ∧ Pst w w' G M b o cap B id op rc v k vq va vu vd ls
  | .error x => ∃ vq va vu vd ls, e = .returned (.int .i64 (x.1 : Int)) ∧ Pst w w' G M b o cap B id op rc v x.2 vq va vu vd ls

/-- where the loop over the sections stands -/
def PJ (w wr : World) (G M b o cap : Nat) (B : ByteArray) (id op rc v : Nat) (vq : Value) (Q : List Qn) (j : Nat) : Prop := match j with
  | 0 => ∃ k, Pst w wr G M b o cap B id op rc v k vq (.slice none 0 0) (.slice none 0 0) (.slice none 0 0) ⟨Q, [], [], []⟩ ∧ parts4 B = pa4 B Q k
  | 1 => ∃ k va A, Pst w wr G M b o cap B id op rc v k vq va (.slice none 0 0) (.slice none 0 0) ⟨Q, A, [], []⟩ ∧ parts4 B = pu4 B Q A k
  | 2 => ∃ k va vu A U, Pst w wr G M b o cap B id op rc v k vq va vu (.slice none 0 0) ⟨Q, A, U, []⟩ ∧ parts4 B = pd4 B Q A U k
  | _ => ∃ k va vu vd A U D, Pst w wr G M b o cap B id op rc v k vq va vu vd ⟨Q, A, U, D⟩ ∧ parts4 B = pe4 B Q A U D k

set_option maxRecDepth 100000 in
set_option maxHeartbeats 8000000 in
/-- (*reader).parts -/
theorem rparts_any (G M b o cap : Nat) (B : ByteArray) (id op rc v : Nat) (w : World) (h : Rr w G (.slice (some ⟨b, o, none⟩) B.size cap) 12 B.size 10) (hm : Bx w M (mcs id op rc v (.slice none 0 0) (.slice none 0 0) (.slice none 0 0) (.slice none 0 0)) 25) (hB : Lib.Bytes w b o B) (hb : b < w.heap.size) (hbG : b ≠ G) (hbM : b ≠ M) (hGM : G ≠ M) (hb12 : 12 ≤ B.size) (hS : B.size ≤ 65535) (hc : B.size ≤ cap) :
    Calls Try.prog 17 #[.pointer (some ⟨G, 0, none⟩), .agg (h12 B), .pointer (some ⟨M, 0, none⟩)] w (ptEnd (parts4 B) G M b o cap B id op rc v w) := by
  obtain ⟨wa, hwa⟩ : ∃ wa, w.alloc (.cells (h12 B) 54) = wa := ⟨_, rfl⟩
  have H0 : Hid (Pst w wa G M b o cap B id op rc v 12 (.slice none 0 0) (.slice none 0 0) (.slice none 0 0) (.slice none 0 0) ⟨[], [], [], []⟩) := by
    have hg : w.grownBy wa none := hwa ▸ World.grownBy_alloc _ _ _
    exact ⟨(hg.block G h.lt (fun e => by cases e)).trans h, hb12, hm.grown hg (by simp), hwa ▸ World.alloc_heap_new w _, (Gr2.refl w G M).step hg (fun q e => by cases e), ⟨World.ownsRow_nil _ _ _ _, World.ownsRow_nil _ _ _ _, World.ownsRow_nil _ _ _ _, World.ownsRow_nil _ _ _ _, apart_nil _, apart_nil _, apart_nil _, apart_nil _, apart_nil _, apart_nil _⟩, hB.blk (hg.block b hb (fun e => by cases e)), by rw [← hwa]; simp, h.lt, hm.lt, hb, hGM, hbG, hbM⟩
  have HNs := hide' (fun (W : World) (x c : Nat) (hW : Bx W w.heap.size (h12 B) 54) (hx : x + 2 ≤ 12) => wnumber_at w.heap.size 0 x 2 c (B.extract 0 12) W (h12_bytes hW hb12) (Nat.zero_le _) (by rw [show (B.extract 0 12).size = 12 by simp [ByteArray.size_extract]; omega]; omega) (by omega))
  have HBE := hide' (fun (x : Nat) (hx : x + 2 ≤ 12) => (be_head (n := 2) hb12 hx : be (B.extract 0 12) x 2 = be B x 2))
  have HQl := hide' (fun (W : World) (k c : Nat) (h1 : Rr W G (.slice (some ⟨b, o, none⟩) B.size cap) k B.size 10) (h2 : Lib.Bytes W b o B) (h3 : b < W.heap.size) (h4 : k ≤ B.size) (h5 : c ≤ 65535) => qlist_any G b o cap k c B W h1 h2 h3 hbG h4 hS hc h5)
  have HRl := hide' (fun (W : World) (k c : Nat) (h1 : Rr W G (.slice (some ⟨b, o, none⟩) B.size cap) k B.size 10) (h2 : Lib.Bytes W b o B) (h3 : b < W.heap.size) (h4 : k ≤ B.size) (h5 : c ≤ 65535) => rlist_any G b o cap k c B W h1 h2 h3 hbG h4 hS hc h5)
  have HSe := hide' (fun (W : World) => (sectionsOf_any M 0 W : Calls Try.prog 19 #[.pointer (some ⟨M, 0, none⟩)] W fun e w' => e = .returned (.agg #[.pointer (some ⟨M, 11, none⟩), .pointer (some ⟨M, 12, none⟩), .pointer (some ⟨M, 13, none⟩)]) ∧ Below W.heap.size W w'))
  obtain ⟨cq, hcq⟩ : ∃ c, be B 4 2 = c := ⟨_, rfl⟩
  have hcql : cq < 65536 := hcq ▸ be2_lt _ _
  have HC4 : Hid (be (B.extract 0 12) (4 - 0) 2 = cq) := by unfold Hid; rw [HBE.out _ (by omega)]; exact hcq
  have HP := hide' (parts4_eq B)
  rw [hcq] at HP
  clear hcq h hm hB
  have bw : b < wa.heap.size := by have := H0.out.sz; omega
  cases hq : qs B cq 12 [] with
  | error x =>
    have HX : Hid (parts4 B = .error x) := by unfold Hid; rw [HP.out, hq]
    obtain ⟨hx1, hx2⟩ := qs_err _ _ _ _ (by omega) hq
    have hx : ((x.1 : Int) != 0) = true := by simp [bne_iff_ne]; omega
    go_enter Try.func17, Try.ntmps17
    go_wp2_with (first
      | (go_at_call 15; refine Calls.mono (HNs.out _ 4 _ H0.out.hd (by omega)) ?_; rw [HC4.out]; rintro e w1 ⟨rfl, h1⟩; have h1' := h1.symm; subst h1')
      | (go_at_call 30; refine Calls.mono (HQl.out _ 12 cq H0.out.rd H0.out.by_ bw hb12 (by omega)) ?_; rw [hq]; rintro e w2 ⟨rfl, hr2, hg2⟩; have H2 := hide' (H0.out.move hr2 hx2 hg2); have s1 : w2.cell? ⟨M, 10, none⟩ = some (.slice none 0 0) := H2.out.bx.cell rfl; have s2 := H2.out.bx.free 10; clear hr2 hg2))
    go_ret
    rw [HX.out]
    exact ⟨_, _, _, _, _, rfl, H2.out.put 10 _ rfl H2.out.rows⟩
  | ok r =>
    obtain ⟨Q, k1⟩ := r
    obtain ⟨hk1, hQl⟩ := qs_le _ _ _ _ (by omega) hq
    have HX : Hid (parts4 B = pa4 B Q k1) := by unfold Hid; rw [HP.out, hq]
    clear HP hQl
    go_enter Try.func17, Try.ntmps17
    go_wp2_with (first
      | (go_at_call 15; refine Calls.mono (HNs.out _ 4 _ H0.out.hd (by omega)) ?_; rw [HC4.out]; rintro e w1 ⟨rfl, h1⟩; have h1' := h1.symm; subst h1')
      | (go_at_call 30; refine Calls.mono (HQl.out _ 12 cq H0.out.rd H0.out.by_ bw hb12 (by omega)) ?_; rw [hq]; rintro e w2 ⟨pq, cp, rfl, ho2, hr2, hg2⟩; have H2 := hide' (H0.out.move hr2 hk1 hg2); have HO2 := hide' (own_low ho2 H0.out.sz); have s1 : w2.cell? ⟨M, 10, none⟩ = some (.slice none 0 0) := H2.out.bx.cell rfl; have s2 := H2.out.bx.free 10; clear hr2 hg2 ho2; obtain ⟨w3, hw3⟩ : ∃ w3, w2.setCell ⟨M, 10, none⟩ (.slice pq Q.length cp) = w3 := ⟨_, rfl⟩; have H3 : Hid (Pst w w3 G M b o cap B id op rc v k1 (.slice pq Q.length cp) (.slice none 0 0) (.slice none 0 0) (.slice none 0 0) ⟨Q, [], [], []⟩) := hw3 ▸ H2.out.put 10 (.slice pq Q.length cp) rfl ⟨HO2.out, World.ownsRow_nil _ _ _ _, World.ownsRow_nil _ _ _ _, World.ownsRow_nil _ _ _ _, apart_nil _, apart_nil _, apart_nil _, apart_nil _, apart_nil _, apart_nil _⟩)
      | (go_at_call 19; refine (HSe.out _).mono ?_; rintro e w4 ⟨rfl, hB4⟩; have H4 := hide' (H3.out.low hB4); clear hB4))
    clear hwa hw3 s1 s2 H0 H2 H3 HO2 HQl HSe HC4
    go_loopw [25] (fun iv wr => ∃ j : Nat, iv = .int .i64 (j : Int) ∧ j ≤ 3 ∧ Hid (PJ w wr G M b o cap B id op rc v (.slice pq Q.length cp) Q j)) (fun iv _ => 3 - (intOf iv).toNat)
    case atStart => exact ⟨0, rfl, Nat.zero_le _, ⟨k1, H4.out, HX.out⟩⟩
    case round =>
      obtain ⟨j, rfl, hj, HJ⟩ := hrel
      clear H4 HX
      by_cases hlt : j < 3
      · have hj3 : j = 0 ∨ j = 1 ∨ j = 2 := by omega
        rcases hj3 with rfl | rfl | rfl
        · obtain ⟨k, hP, hX⟩ := HJ.out
          have HPs := hide' hP
          have hkl := hP.kl
          have bw2 : b < wr.heap.size := by have := hP.sz; omega
          clear hP HJ
          obtain ⟨cc, hcc⟩ : ∃ c, be B 6 2 = c := ⟨_, rfl⟩
          have hccl : cc < 65536 := hcc ▸ be2_lt _ _
          have HCc : Hid (be (B.extract 0 12) (6 - 0) 2 = cc) := by unfold Hid; rw [HBE.out _ (by omega)]; exact hcc
          have hx : ∀ W : World, Sem.run Try.prog (Instr.index 61 (.agg #[.pointer (some ⟨M, 11, none⟩), .pointer (some ⟨M, 12, none⟩), .pointer (some ⟨M, 13, none⟩)]) (.int .i64 0)) W = .ok (.pointer (some ⟨M, 11, none⟩)) W := fun W => rfl
          cases hrs : rs B cc k [] with
          | error x =>
            have HX : Hid (parts4 B = .error x) := by unfold Hid; rw [hX]; unfold pa4; rw [hcc, hrs]
            obtain ⟨hx1, hx2⟩ := rs_err _ _ _ _ hkl hrs
            have hxb : ((x.1 : Int) != 0) = true := by simp [bne_iff_ne]; omega
            clear hX hcc
            go_wp2_with (first
              | (go_at_call 15; refine Calls.mono (HNs.out _ 6 _ HPs.out.hd (by omega)) ?_; rw [HCc.out]; rintro e w1 ⟨rfl, h1⟩; have h1' := h1.symm; subst h1')
              | (go_at_call 32; refine Calls.mono (HRl.out _ k cc HPs.out.rd HPs.out.by_ bw2 hkl (by omega)) ?_; rw [hrs]; rintro e w2 ⟨rfl, hr2, hg2⟩; have H2 := hide' (HPs.out.move hr2 hx2 hg2); have s1 : w2.cell? ⟨M, 11, none⟩ = some (.slice none 0 0) := H2.out.bx.cell rfl; have s2 := H2.out.bx.free 11; clear hr2 hg2))
            go_ret
            rw [HX.out]
            exact ⟨_, _, _, _, _, rfl, H2.out.put 11 _ rfl H2.out.rows⟩
          | ok r =>
            obtain ⟨A, k2⟩ := r
            obtain ⟨hk2, hLl⟩ := rs_le _ _ _ _ hkl hrs
            have HXn : Hid (parts4 B = pu4 B Q A k2) := by unfold Hid; rw [hX]; unfold pa4; rw [hcc, hrs]
            clear hX hcc hLl
            go_wp2_with (first
              | (go_at_call 15; refine Calls.mono (HNs.out _ 6 _ HPs.out.hd (by omega)) ?_; rw [HCc.out]; rintro e w1 ⟨rfl, h1⟩; have h1' := h1.symm; subst h1')
              | (go_at_call 32; refine Calls.mono (HRl.out _ k cc HPs.out.rd HPs.out.by_ bw2 hkl (by omega)) ?_; rw [hrs]; rintro e w2 ⟨pn, cn, rfl, ho2, hr2, hg2⟩; have H2 := hide' (HPs.out.move hr2 hk2 hg2); have HOn := hide' ho2; have HO2 := hide' (own_low ho2 HPs.out.sz); have s1 : w2.cell? ⟨M, 11, none⟩ = some (.slice none 0 0) := H2.out.bx.cell rfl; have s2 := H2.out.bx.free 11; clear hr2 hg2 ho2))
            have HPn := H2.out.put 11 (.slice pn A.length cn) (vq2 := .slice pq Q.length cp) (va2 := (.slice pn A.length cn)) (vu2 := (.slice none 0 0)) (vd2 := (.slice none 0 0)) (ls2 := ⟨Q, A, [], []⟩) rfl ⟨H2.out.rows.q, HO2.out, World.ownsRow_nil _ _ _ _, World.ownsRow_nil _ _ _ _, apart_new HPs.out.rows.q HOn.out (Nat.le_refl _), apart_nil _, apart_nil _, apart_nil _, apart_nil _, apart_nil _⟩
            go_roundw
            case rel => exact ⟨1, by go_num, by omega, ⟨k2, (.slice pn A.length cn), A, HPn, HXn.out⟩⟩
            case measure => simp [intOf]
        · obtain ⟨k, va, A, hP, hX⟩ := HJ.out
          have HPs := hide' hP
          have hkl := hP.kl
          have bw2 : b < wr.heap.size := by have := hP.sz; omega
          clear hP HJ
          obtain ⟨cc, hcc⟩ : ∃ c, be B 8 2 = c := ⟨_, rfl⟩
          have hccl : cc < 65536 := hcc ▸ be2_lt _ _
          have HCc : Hid (be (B.extract 0 12) (8 - 0) 2 = cc) := by unfold Hid; rw [HBE.out _ (by omega)]; exact hcc
          have hx : ∀ W : World, Sem.run Try.prog (Instr.index 61 (.agg #[.pointer (some ⟨M, 11, none⟩), .pointer (some ⟨M, 12, none⟩), .pointer (some ⟨M, 13, none⟩)]) (.int .i64 1)) W = .ok (.pointer (some ⟨M, 12, none⟩)) W := fun W => rfl
          cases hrs : rs B cc k [] with
          | error x =>
            have HX : Hid (parts4 B = .error x) := by unfold Hid; rw [hX]; unfold pu4; rw [hcc, hrs]
            obtain ⟨hx1, hx2⟩ := rs_err _ _ _ _ hkl hrs
            have hxb : ((x.1 : Int) != 0) = true := by simp [bne_iff_ne]; omega
            clear hX hcc
            go_wp2_with (first
              | (go_at_call 15; refine Calls.mono (HNs.out _ 8 _ HPs.out.hd (by omega)) ?_; rw [HCc.out]; rintro e w1 ⟨rfl, h1⟩; have h1' := h1.symm; subst h1')
              | (go_at_call 32; refine Calls.mono (HRl.out _ k cc HPs.out.rd HPs.out.by_ bw2 hkl (by omega)) ?_; rw [hrs]; rintro e w2 ⟨rfl, hr2, hg2⟩; have H2 := hide' (HPs.out.move hr2 hx2 hg2); have s1 : w2.cell? ⟨M, 12, none⟩ = some (.slice none 0 0) := H2.out.bx.cell rfl; have s2 := H2.out.bx.free 12; clear hr2 hg2))
            go_ret
            rw [HX.out]
            exact ⟨_, _, _, _, _, rfl, H2.out.put 12 _ rfl H2.out.rows⟩
          | ok r =>
            obtain ⟨U, k2⟩ := r
            obtain ⟨hk2, hLl⟩ := rs_le _ _ _ _ hkl hrs
            have HXn : Hid (parts4 B = pd4 B Q A U k2) := by unfold Hid; rw [hX]; unfold pu4; rw [hcc, hrs]
            clear hX hcc hLl
            go_wp2_with (first
              | (go_at_call 15; refine Calls.mono (HNs.out _ 8 _ HPs.out.hd (by omega)) ?_; rw [HCc.out]; rintro e w1 ⟨rfl, h1⟩; have h1' := h1.symm; subst h1')
              | (go_at_call 32; refine Calls.mono (HRl.out _ k cc HPs.out.rd HPs.out.by_ bw2 hkl (by omega)) ?_; rw [hrs]; rintro e w2 ⟨pn, cn, rfl, ho2, hr2, hg2⟩; have H2 := hide' (HPs.out.move hr2 hk2 hg2); have HOn := hide' ho2; have HO2 := hide' (own_low ho2 HPs.out.sz); have s1 : w2.cell? ⟨M, 12, none⟩ = some (.slice none 0 0) := H2.out.bx.cell rfl; have s2 := H2.out.bx.free 12; clear hr2 hg2 ho2))
            have HPn := H2.out.put 12 (.slice pn U.length cn) (vq2 := .slice pq Q.length cp) (va2 := va) (vu2 := (.slice pn U.length cn)) (vd2 := (.slice none 0 0)) (ls2 := ⟨Q, A, U, []⟩) rfl ⟨H2.out.rows.q, H2.out.rows.a, HO2.out, World.ownsRow_nil _ _ _ _, H2.out.rows.qa, apart_new HPs.out.rows.q HOn.out (Nat.le_refl _), apart_nil _, apart_new HPs.out.rows.a HOn.out (Nat.le_refl _), apart_nil _, apart_nil _⟩
            go_roundw
            case rel => exact ⟨2, by go_num, by omega, ⟨k2, va, (.slice pn U.length cn), A, U, HPn, HXn.out⟩⟩
            case measure => simp [intOf]
        · obtain ⟨k, va, vu, A, U, hP, hX⟩ := HJ.out
          have HPs := hide' hP
          have hkl := hP.kl
          have bw2 : b < wr.heap.size := by have := hP.sz; omega
          clear hP HJ
          obtain ⟨cc, hcc⟩ : ∃ c, be B 10 2 = c := ⟨_, rfl⟩
          have hccl : cc < 65536 := hcc ▸ be2_lt _ _
          have HCc : Hid (be (B.extract 0 12) (10 - 0) 2 = cc) := by unfold Hid; rw [HBE.out _ (by omega)]; exact hcc
          have hx : ∀ W : World, Sem.run Try.prog (Instr.index 61 (.agg #[.pointer (some ⟨M, 11, none⟩), .pointer (some ⟨M, 12, none⟩), .pointer (some ⟨M, 13, none⟩)]) (.int .i64 2)) W = .ok (.pointer (some ⟨M, 13, none⟩)) W := fun W => rfl
          cases hrs : rs B cc k [] with
          | error x =>
            have HX : Hid (parts4 B = .error x) := by unfold Hid; rw [hX]; unfold pd4; rw [hcc, hrs]
            obtain ⟨hx1, hx2⟩ := rs_err _ _ _ _ hkl hrs
            have hxb : ((x.1 : Int) != 0) = true := by simp [bne_iff_ne]; omega
            clear hX hcc
            go_wp2_with (first
              | (go_at_call 15; refine Calls.mono (HNs.out _ 10 _ HPs.out.hd (by omega)) ?_; rw [HCc.out]; rintro e w1 ⟨rfl, h1⟩; have h1' := h1.symm; subst h1')
              | (go_at_call 32; refine Calls.mono (HRl.out _ k cc HPs.out.rd HPs.out.by_ bw2 hkl (by omega)) ?_; rw [hrs]; rintro e w2 ⟨rfl, hr2, hg2⟩; have H2 := hide' (HPs.out.move hr2 hx2 hg2); have s1 : w2.cell? ⟨M, 13, none⟩ = some (.slice none 0 0) := H2.out.bx.cell rfl; have s2 := H2.out.bx.free 13; clear hr2 hg2))
            go_ret
            rw [HX.out]
            exact ⟨_, _, _, _, _, rfl, H2.out.put 13 _ rfl H2.out.rows⟩
          | ok r =>
            obtain ⟨D, k2⟩ := r
            obtain ⟨hk2, hLl⟩ := rs_le _ _ _ _ hkl hrs
            have HXn : Hid (parts4 B = pe4 B Q A U D k2) := by unfold Hid; rw [hX]; unfold pd4; rw [hcc, hrs]
            clear hX hcc hLl
            go_wp2_with (first
              | (go_at_call 15; refine Calls.mono (HNs.out _ 10 _ HPs.out.hd (by omega)) ?_; rw [HCc.out]; rintro e w1 ⟨rfl, h1⟩; have h1' := h1.symm; subst h1')
              | (go_at_call 32; refine Calls.mono (HRl.out _ k cc HPs.out.rd HPs.out.by_ bw2 hkl (by omega)) ?_; rw [hrs]; rintro e w2 ⟨pn, cn, rfl, ho2, hr2, hg2⟩; have H2 := hide' (HPs.out.move hr2 hk2 hg2); have HOn := hide' ho2; have HO2 := hide' (own_low ho2 HPs.out.sz); have s1 : w2.cell? ⟨M, 13, none⟩ = some (.slice none 0 0) := H2.out.bx.cell rfl; have s2 := H2.out.bx.free 13; clear hr2 hg2 ho2))
            have HPn := H2.out.put 13 (.slice pn D.length cn) (vq2 := .slice pq Q.length cp) (va2 := va) (vu2 := vu) (vd2 := (.slice pn D.length cn)) (ls2 := ⟨Q, A, U, D⟩) rfl ⟨H2.out.rows.q, H2.out.rows.a, H2.out.rows.u, HO2.out, H2.out.rows.qa, H2.out.rows.qu, apart_new HPs.out.rows.q HOn.out (Nat.le_refl _), H2.out.rows.au, apart_new HPs.out.rows.a HOn.out (Nat.le_refl _), apart_new HPs.out.rows.u HOn.out (Nat.le_refl _)⟩
            go_roundw
            case rel => exact ⟨3, by go_num, by omega, ⟨k2, va, vu, (.slice pn D.length cn), A, U, D, HPn, HXn.out⟩⟩
            case measure => simp [intOf]
      · obtain rfl : j = 3 := by omega
        obtain ⟨k, va, vu, vd, A, U, D, hP, hX⟩ := HJ.out
        have HPs := hide' hP
        have c1 := hP.rd.c1
        have c2 := hP.rd.c2
        have hkl := hP.kl
        clear hP
        by_cases hlast : k < B.size
        · have HX : Hid (parts4 B = .error (11, k)) := by unfold Hid; rw [hX]; unfold pe4; rw [if_pos hlast]
          clear hX
          go_wp2_with fail
          go_quiet (fail)
          go_wp2
          go_ret
          rw [HX.out]
          exact ⟨_, _, _, _, _, rfl, HPs.out.low (below_quiet _)⟩
        · have HX : Hid (parts4 B = .ok ⟨Q, A, U, D⟩) := by unfold Hid; rw [hX]; unfold pe4; rw [if_neg hlast]
          clear hX
          go_wp2_with fail
          go_quiet (fail)
          go_wp2
          go_ret
          rw [HX.out]
          exact ⟨_, _, _, _, _, rfl, HPs.out.low (below_quiet _)⟩
end Go.Proofs.Ytinnmfidnecncaa

namespace Go.Proofs.Ytinnmfidnecncaa
set_option linter.unusedVariables false
open Go.RowKit Go.Shelf Go.Proofs.Ytinnmfidnecncaa.Nm

/-- a message out of bytes -/
def upk (B : ByteArray) : Except (Nat × Nat) Ls := if 65535 < B.size then .error (12, 0) else if B.size < 12 then .error (10, B.size) else if sg (be B 2 2) 6 = true then .error (8, 2) else parts4 B
/-- nothing -/
def mz : Array Value := #[.int .i64 0, .bool false, .int .i64 0, .bool false, .bool false, .bool false, .bool false, .bool false, .bool false, .int .i64 0, .slice none 0 0, .slice none 0 0, .slice none 0 0, .slice none 0 0]
def upEnd (B : ByteArray) (w : World) (e : Ending) (w' : World) : Prop := match upk B with
  | .ok ls => ∃ vq va vu vd, e = .returned (.tuple #[.agg (mcs (be B 0 2) (be B 2 2 / 2048 % 16) (be B 2 2 % 16) (be B 2 2) vq va vu vd), .int .i64 0, .int .i64 0]) ∧ Mg4 w' w.heap.size vq va vu vd ls ∧ Below w.heap.size w w'
  | .error x => e = .returned (.tuple #[.agg mz, .int .i64 (x.2 : Int), .int .i64 (x.1 : Int)]) ∧ Below w.heap.size w w'

set_option maxRecDepth 100000 in
set_option maxHeartbeats 8000000 in
/-- wire.Unpack, where there is no head -/
theorem unpack_short (p : Option Addr) (cap : Nat) (B : ByteArray) (w : World) (hS : B.size ≤ 4294967296) (hno : 65535 < B.size ∨ B.size < 12) :
    Calls Try.prog 7 #[.slice p B.size cap] w (upEnd B w) := by
  have hB0 : ∀ o : Obj, Below w.heap.size w (w.alloc o) := fun o => (Below.refl _ w).alloc (Nat.le_refl _) o
  by_cases h1 : 65535 < B.size
  · have HX : Hid (upk B = .error (12, 0)) := by unfold Hid upk; rw [if_pos h1]
    go_enter Try.func7, Try.ntmps7
    go_wp2_with fail
    refine bodyPost_ret (v := .tuple #[.agg mz, .int .i64 0, .int .i64 12]) (by simp [results, go_sem, mz]) rfl ?_
    unfold upEnd
    rw [HX.out]
    exact ⟨rfl, hB0 _⟩
  · have h2 : B.size < 12 := by omega
    have HX : Hid (upk B = .error (10, B.size)) := by unfold Hid upk; rw [if_neg h1, if_pos h2]
    go_enter Try.func7, Try.ntmps7
    go_wp2_with fail
    refine bodyPost_ret (v := .tuple #[.agg mz, .int .i64 (B.size : Int), .int .i64 10]) (by simp [results, go_sem, mz]) rfl ?_
    unfold upEnd
    rw [HX.out]
    exact ⟨rfl, hB0 _⟩

set_option maxRecDepth 100000 in
set_option maxHeartbeats 8000000 in
/-- wire.Unpack, where the signs aren't right -/
theorem unpack_form (b o cap : Nat) (B : ByteArray) (w : World) (hB : Lib.Bytes w b o B) (hb : b < w.heap.size) (h12 : 12 ≤ B.size) (hS : B.size ≤ 65535) (hc : B.size ≤ cap) (hs : sg (be B 2 2) 6 = true) :
    Calls Try.prog 7 #[.slice (some ⟨b, o, none⟩) B.size cap] w (upEnd B w) := by
  have hB0 : ∀ o : Obj, Below w.heap.size w (w.alloc o) := fun o => (Below.refl _ w).alloc (Nat.le_refl _) o
  have HX : Hid (upk B = .error (8, 2)) := by unfold Hid upk; rw [if_neg (by omega), if_neg (by omega), if_pos hs]
  obtain ⟨v, hv⟩ : ∃ v, be B 2 2 = v := ⟨_, rfl⟩
  have hvl : v < 65536 := hv ▸ be2_lt _ _
  have HN := hide' (fun (W : World) (c : Nat) (hW : Lib.Bytes W b o B) => wnumber_any b o 2 2 c B W hW (by omega) (by omega))
  have hbit : (bits .and .i64 ((v : Int) / 64) 1 != 0) = true := by have := and1 v 6 hvl; rw [← hv, hs] at this; rw [← hv]; simpa using this
  rw [hv] at HN
  clear hv hs
  obtain ⟨wa, hwa⟩ : ∃ wa, w.alloc (.cells mz 25) = wa := ⟨_, rfl⟩
  unfold mz at hwa
  have HBa : Hid (Lib.Bytes wa b o B) := hB.blk (hwa ▸ (World.grownBy_alloc w _ none).block b hb (fun e => by cases e))
  have hm : Bx wa w.heap.size #[.int .i64 0, .bool false, .int .i64 0, .bool false, .bool false, .bool false, .bool false, .bool false, .bool false, .int .i64 0, .slice none 0 0, .slice none 0 0, .slice none 0 0, .slice none 0 0] 25 := hwa ▸ World.alloc_heap_new w _
  have HBl : Hid (Below w.heap.size w wa) := hwa ▸ hB0 _
  obtain ⟨r0, r1, r2, r3, r4, r5, r6, r7, r8, r9, r10, r11, r12, r13⟩ := bx14 hm
  obtain ⟨f0, f1, f2, f3, f4, f5, f6, f7, f8, f9, f10, f11, f12, f13⟩ := bx14_free hm
  go_enter Try.func7, Try.ntmps7
  go_wp2_with (go_at_call 15; refine Calls.mono (HN.out _ _ HBa.out) ?_; rintro e w1 ⟨rfl, h1⟩; have h1' := h1.symm; subst h1')
  obtain ⟨q0, q1, q2, q3, q4, q5, q6, q7, q8, q9, q10, q11, q12, q13⟩ := bx14 (bx14_set hm (.int .i64 0) (.bool false) (.int .i64 0) (.bool false) (.bool false) (.bool false) (.bool false) (.bool false) (.bool false) (.int .i64 0) (.slice none 0 0) (.slice none 0 0) (.slice none 0 0) (.slice none 0 0))
  unfold set14 at q0 q1 q2 q3 q4 q5 q6 q7 q8 q9 q10 q11 q12 q13
  refine bodyPost_ret (v := .tuple #[.agg mz, .int .i64 2, .int .i64 8]) (by simp [results, go_sem, mz, q0, q1, q2, q3, q4, q5, q6, q7, q8, q9, q10, q11, q12, q13]) rfl ?_
  unfold upEnd
  rw [HX.out]
  exact ⟨rfl, below14 HBl.out (Nat.le_refl _) HBl.out.size _ _ _ _ _ _ _ _ _ _ _ _ _ _⟩
end Go.Proofs.Ytinnmfidnecncaa
