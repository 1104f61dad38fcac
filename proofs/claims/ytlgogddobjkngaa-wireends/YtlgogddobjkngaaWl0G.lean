import Derived.Test.YtlgogddobjkngaaWq3G
import Derived.Test.YtlgogddobjkngaaWu17
import Derived.Test.YtlgogddobjkngaaSm1G
import Derived.Test.YtlgogddobjkngaaFr0G
import Derived.ProofKit
import Derived.OpenShut
import Derived.JoinedCond
import Derived.ShutString
import Derived.ChangeOld
import Derived.ChangeSlices
import Derived.Carry
namespace Go.Proofs.Ytlgogddobjkngaa
set_option linter.unusedVariables false
open Go.RowKit Go.Shelf Go.Maps Go.Proofs.Ytlgogddobjkngaa.Nm

/-- the bytes of the document's example -/
def exB : ByteArray := ⟨#[0, 7, 1, 0, 0, 1, 0, 0, 0, 0, 0, 0, 3, 119, 119, 119, 2, 101, 120, 0, 0, 1, 0, 1]⟩
theorem exOut : (packS 7 0 0 false false false true false false false [exQ] [] [] []).out = exB := by kernel_rfl
theorem own_first {w : World} {base e size : Nat} {p : Option Addr} {n c : Nat} {xs : List Value} (h : w.ownsRow base e size (.slice p n c) n xs) (hn : 0 < n) : ∃ g, p = some ⟨g, 0, none⟩ := by
  rcases h.2 with ⟨h1, h0⟩ | ⟨g, cap, cur, h1, _⟩
  · omega
  · injection h1 with h1 h2 h3; exact ⟨g, h1⟩
theorem own_bytes2 {w : World} {base g cap n : Nat} {B : ByteArray} (h : w.ownsRow base 5 1 (.slice (some ⟨g, 0, none⟩) n cap) n (Go.Lib.strCells B)) : Lib.Bytes w g 0 B := by
  have hn : n = B.size := by have := h.1; rw [Go.Lib.strCells_length] at this; omega
  subst hn
  intro i hi
  have hc := h.cellAt i (by omega)
  rw [Nat.zero_add, hc]
  unfold Go.Lib.strCells
  rw [List.getElem?_map, List.getElem?_eq_getElem (by rw [Array.length_toList]; exact hi)]
  rfl
/-- bytes that lie somewhere -/
def ByAt (w : World) (p : Option Addr) (B : ByteArray) : Prop := 0 < B.size → ∃ b o, p = some ⟨b, o, none⟩ ∧ b < w.heap.size ∧ Lib.Bytes w b o B
theorem ByAt.below {w w' : World} {p : Option Addr} {B : ByteArray} (h : ByAt w p B) (hb : Below w.heap.size w w') : ByAt w' p B := fun h0 => by
  obtain ⟨b, o, h1, h2, h3⟩ := h h0
  exact ⟨b, o, h1, Nat.lt_of_lt_of_le h2 hb.size, h3.blk (hb.block b h2)⟩
theorem byAt_own {w : World} {base cap n : Nat} {p : Option Addr} {B : ByteArray} (h : w.ownsRow base 5 1 (.slice p n cap) n (Go.Lib.strCells B)) : ByAt w p B := fun h0 => by
  have hn : n = B.size := by have := h.1; rw [Go.Lib.strCells_length] at this; omega
  obtain ⟨g, rfl⟩ := own_first h (by omega)
  exact ⟨g, 0, rfl, (h.lt g rfl).2, own_bytes2 h⟩

set_option maxRecDepth 100000 in
set_option maxHeartbeats 8000000 in
/-- wire.Unpack, of too much -/
theorem unpack_long (p : Option Addr) (cap : Nat) (B : ByteArray) (w : World) (hS : B.size ≤ 9223372036854775807) (h1 : 65535 < B.size) :
    Calls Try.prog 7 #[.slice p B.size cap] w (upEnd B w) := by
  have hB0 : ∀ o : Obj, Below w.heap.size w (w.alloc o) := fun o => (Below.refl _ w).alloc (Nat.le_refl _) o
  have HX : Hid (upk B = .error (12, 0)) := by unfold Hid upk; rw [if_pos h1]
  go_enter Try.func7, Try.ntmps7
  go_wp2_with fail
  refine bodyPost_ret (v := .tuple #[.agg mz, .int .i64 0, .int .i64 12]) (by simp [results, go_sem, mz]) rfl ?_
  unfold upEnd
  rw [HX.out]
  exact ⟨rfl, hB0 _⟩
theorem unpack_all (p : Option Addr) (cap : Nat) (B : ByteArray) (w : World) (hS : B.size ≤ 9223372036854775807) (hc : B.size ≤ cap) (hp : ByAt w p B) :
    Calls Try.prog 7 #[.slice p B.size cap] w (upEnd B w) := by
  by_cases h1 : 65535 < B.size
  · exact unpack_long p cap B w hS h1
  · exact unpack_any p cap B w (by omega) hc (fun h => hp (by omega))
theorem upk_err {B : ByteArray} {x : Nat × Nat} (h : upk B = .error x) : x.1 ≠ 0 := by
  unfold upk at h
  split at h
  · injection h with h; subst h; show (12 : Nat) ≠ 0; omega
  · split at h
    · injection h with h; subst h; show (10 : Nat) ≠ 0; omega
    · split at h
      · injection h with h; subst h; show (8 : Nat) ≠ 0; omega
      · exact parts4_err h
/-- .. of what is no message -/
theorem unpack_bad {B : ByteArray} {x : Nat × Nat} (hx : upk B = .error x) (p : Option Addr) (cap : Nat) (w : World) (hS : B.size ≤ 9223372036854775807) (hc : B.size ≤ cap) (hp : ByAt w p B) :
    Calls Try.prog 7 #[.slice p B.size cap] w fun e w' => e = .returned (.tuple #[.agg #[.int .i64 0, .bool false, .int .i64 0, .bool false, .bool false, .bool false, .bool false, .bool false, .bool false, .int .i64 0, .slice none 0 0, .slice none 0 0, .slice none 0 0, .slice none 0 0], .int .i64 (x.2 : Int), .int .i64 (x.1 : Int)]) ∧ Below w.heap.size w w' := by
  refine (unpack_all p cap B w hS hc hp).mono ?_
  intro e w' h
  unfold upEnd at h
  rw [hx] at h
  exact h
theorem lsAt_own {w : World} {m : Nat} {a1 a2 a3 a4 : Option Addr} {c1 c2 c3 c4 : Nat} {ls : Ls} (h : Mg4 w m (.slice a1 ls.q.length c1) (.slice a2 ls.a.length c2) (.slice a3 ls.u.length c3) (.slice a4 ls.d.length c4) ls) {i0 i2 i9 : Int} (hm : msgOK i0 i2 i9 ls.q ls.a ls.u ls.d = true) : LsAt w a1 a2 a3 a4 ls.q ls.a ls.u ls.d := by
  obtain ⟨_, _, _, _, _, _, _, hl⟩ := msgOK_parts hm
  obtain ⟨oq, oa, ou, od⟩ := lstOK_parts hl
  have hmx : 65535 ≤ maxLen := by decide
  have hr : ∀ r : Rn, rOK r = true → r.o.size ≤ maxLen ∧ r.d.size ≤ 9223372036854775807 := fun r hr => by
    obtain ⟨h1, _, _, _, hd⟩ := rOK_parts hr
    have h2 := ((isN_iff r.o).1 h1).1
    have h3 := hd.1
    exact ⟨by omega, by omega⟩
  have h4 := ms4_own h
  refine ⟨h4.q, h4.a, h4.u, h4.d, fun q hq => ?_, fun r h => hr r (oa r h), fun r h => hr r (ou r h), fun r h => hr r (od r h)⟩
  have h2 := ((isN_iff q.n).1 (qOK_parts (oq q hq)).1).1
  omega
/-- .. of a message -/
theorem unpack_good {B : ByteArray} {ls : Ls} (hx : upk B = .ok ls) (p : Option Addr) (cap : Nat) (w : World) (hS : B.size ≤ 9223372036854775807) (hc : B.size ≤ cap) (hp : ByAt w p B) :
    Calls Try.prog 7 #[.slice p B.size cap] w fun e w' => ∃ a1 a2 a3 a4 c1 c2 c3 c4, e = .returned (.tuple #[.agg #[.int .i64 ((be B 0 2 : Nat) : Int), .bool (sg (be B 2 2) 15), .int .i64 ((be B 2 2 / 2048 % 16 : Nat) : Int), .bool (sg (be B 2 2) 10), .bool (sg (be B 2 2) 9), .bool (sg (be B 2 2) 8), .bool (sg (be B 2 2) 7), .bool (sg (be B 2 2) 5), .bool (sg (be B 2 2) 4), .int .i64 ((be B 2 2 % 16 : Nat) : Int), .slice a1 ls.q.length c1, .slice a2 ls.a.length c2, .slice a3 ls.u.length c3, .slice a4 ls.d.length c4], .int .i64 0, .int .i64 0]) ∧ Mg4 w' w.heap.size (.slice a1 ls.q.length c1) (.slice a2 ls.a.length c2) (.slice a3 ls.u.length c3) (.slice a4 ls.d.length c4) ls ∧ Below w.heap.size w w' := by
  refine (unpack_all p cap B w hS hc hp).mono ?_
  intro e w' h
  unfold upEnd at h
  rw [hx] at h
  obtain ⟨vq, va, vu, vd, rfl, hM, hb⟩ := h
  obtain ⟨a1, c1, rfl, _⟩ := own_shape hM.q
  obtain ⟨a2, c2, rfl, _⟩ := own_shape hM.a
  obtain ⟨a3, c3, rfl, _⟩ := own_shape hM.u
  obtain ⟨a4, c4, rfl, _⟩ := own_shape hM.d
  exact ⟨a1, a2, a3, a4, c1, c2, c3, c4, rfl, hM, hb⟩
/-- .. of what Pack wrote -/
theorem unpack_pack (i0 i2 i9 : Nat) (b1 b3 b4 b5 b6 b7 b8 : Bool) (Q : List Qn) (A U D : List Rn) (hm : msgOK i0 i2 i9 Q A U D = true) (hz : (packS i0 i2 i9 b1 b3 b4 b5 b6 b7 b8 Q A U D).out.size ≤ 65535) (p : Option Addr) (cap : Nat) (w : World) (hc : (packS i0 i2 i9 b1 b3 b4 b5 b6 b7 b8 Q A U D).out.size ≤ cap) (hp : ByAt w p (packS i0 i2 i9 b1 b3 b4 b5 b6 b7 b8 Q A U D).out) :
    Calls Try.prog 7 #[.slice p (packS i0 i2 i9 b1 b3 b4 b5 b6 b7 b8 Q A U D).out.size cap] w fun e w' => ∃ a1 a2 a3 a4 c1 c2 c3 c4, e = .returned (.tuple #[.agg #[.int .i64 (i0 : Int), .bool b1, .int .i64 (i2 : Int), .bool b3, .bool b4, .bool b5, .bool b6, .bool b7, .bool b8, .int .i64 (i9 : Int), .slice a1 Q.length c1, .slice a2 A.length c2, .slice a3 U.length c3, .slice a4 D.length c4], .int .i64 0, .int .i64 0]) ∧ Mg4 w' w.heap.size (.slice a1 Q.length c1) (.slice a2 A.length c2) (.slice a3 U.length c3) (.slice a4 D.length c4) ⟨Q, A, U, D⟩ ∧ Below w.heap.size w w' := by
  obtain ⟨h1, h2, h3⟩ := upk_pack i0 i2 i9 b1 b3 b4 b5 b6 b7 b8 Q A U D hm hz
  obtain ⟨⟨n0, e0, k0⟩, ⟨n2, e2, k2⟩, ⟨n9, e9, k9⟩, _⟩ := msgOK_parts hm
  obtain ⟨_, r1, r2, r3, r4, r5, r6, r7, r8, r9⟩ := sgS_read i2 i9 b1 b3 b4 b5 b6 b7 b8 (by omega) (by omega)
  have := unpack_good h1 p cap w (by omega) hc hp
  rw [h2, h3, r1, r2, r3, r4, r5, r6, r7, r8, r9] at this
  exact this
theorem ms4_of {w : World} {a1 a2 a3 a4 : Option Addr} {Q : List Qn} {A U D : List Rn} (h : LsAt w a1 a2 a3 a4 Q A U D) : Ms4 w a1 a2 a3 a4 ⟨Q, A, U, D⟩ := ⟨h.q, h.a, h.u, h.d⟩
end Go.Proofs.Ytlgogddobjkngaa

/-
  A message and bytes that come in. (The verifier's own text.)
-/
namespace Go.Proofs.Ytlgogddobjkngaa.Fra
set_option linter.unusedVariables false
open Go.ChangeShapes Go.WideShapes Go.ChangeAt Go.RowKit
open Go.ChangeMaps (open_string shut_string)

theorem own : ownKnob Try.prog.godebug = none := by kernel_rfl
theorem laid : laidOutB Try.prog = true := by kernel_rfl
theorem cellsU8 : Try.prog.cellsOf 5 = 1 := by kernel_rfl
theorem array14 {cs : Array Value} (h : cs.size = 14) : cs = #[cs.toList.getD 0 undef, cs.toList.getD 1 undef, cs.toList.getD 2 undef, cs.toList.getD 3 undef, cs.toList.getD 4 undef, cs.toList.getD 5 undef, cs.toList.getD 6 undef, cs.toList.getD 7 undef, cs.toList.getD 8 undef, cs.toList.getD 9 undef, cs.toList.getD 10 undef, cs.toList.getD 11 undef, cs.toList.getD 12 undef, cs.toList.getD 13 undef] := by
  obtain ⟨l⟩ := cs
  match l, h with
  | [x0, x1, x2, x3, x4, x5, x6, x7, x8, x9, x10, x11, x12, x13], _ => rfl

set_option maxRecDepth 100000 in
/-- a message that comes in -/
theorem msg_open {H : Type} {enc : TypeId × Value → H} {w : World} {base : Nat} {spare : Nat → Bool} {held : Bool} {r : Reach} {b0 : Nat} {v : Value} {d : DataW H} {p : List MemPlace}
    (hv : Value.okWide Try.prog w r b0 25 v) (h : DataW.Trod enc Try.prog w base spare held 25 v d p) :
    ∃ (i0 i2 i9 : Int) (b1 b3 b4 b5 b6 b7 b8 : Bool) (q0 a0 u0 d0 : Option Addr) (qc ac uc dc : Nat) (Q : List Qn) (A U D : List Rn), v = .agg #[.int .i64 i0, .bool b1, .int .i64 i2, .bool b3, .bool b4, .bool b5, .bool b6, .bool b7, .bool b8, .int .i64 i9, .slice q0 Q.length qc, .slice a0 A.length ac, .slice u0 U.length uc, .slice d0 D.length dc] ∧ LsAt w q0 a0 u0 d0 Q A U D ∧ (d0 = none → dc = 0) := by
  obtain ⟨fs, hs, hone, hC, h14, hty⟩ := struct_of oneM
  obtain ⟨cs, n, rfl, hsz, hf⟩ := agg_open hs hone hC hv h
  obtain ⟨f0, g0, t0⟩ := hty 0 (by omega)
  obtain ⟨y0, r0⟩ := hf 0 f0 g0
  rw [← Option.some.inj t0] at r0
  obtain ⟨f1, g1, t1⟩ := hty 1 (by omega)
  obtain ⟨y1, r1⟩ := hf 1 f1 g1
  rw [← Option.some.inj t1] at r1
  obtain ⟨f2, g2, t2⟩ := hty 2 (by omega)
  obtain ⟨y2, r2⟩ := hf 2 f2 g2
  rw [← Option.some.inj t2] at r2
  obtain ⟨f3, g3, t3⟩ := hty 3 (by omega)
  obtain ⟨y3, r3⟩ := hf 3 f3 g3
  rw [← Option.some.inj t3] at r3
  obtain ⟨f4, g4, t4⟩ := hty 4 (by omega)
  obtain ⟨y4, r4⟩ := hf 4 f4 g4
  rw [← Option.some.inj t4] at r4
  obtain ⟨f5, g5, t5⟩ := hty 5 (by omega)
  obtain ⟨y5, r5⟩ := hf 5 f5 g5
  rw [← Option.some.inj t5] at r5
  obtain ⟨f6, g6, t6⟩ := hty 6 (by omega)
  obtain ⟨y6, r6⟩ := hf 6 f6 g6
  rw [← Option.some.inj t6] at r6
  obtain ⟨f7, g7, t7⟩ := hty 7 (by omega)
  obtain ⟨y7, r7⟩ := hf 7 f7 g7
  rw [← Option.some.inj t7] at r7
  obtain ⟨f8, g8, t8⟩ := hty 8 (by omega)
  obtain ⟨y8, r8⟩ := hf 8 f8 g8
  rw [← Option.some.inj t8] at r8
  obtain ⟨f9, g9, t9⟩ := hty 9 (by omega)
  obtain ⟨y9, r9⟩ := hf 9 f9 g9
  rw [← Option.some.inj t9] at r9
  obtain ⟨f10, g10, t10⟩ := hty 10 (by omega)
  obtain ⟨y10, r10⟩ := hf 10 f10 g10
  rw [← Option.some.inj t10] at r10
  obtain ⟨f11, g11, t11⟩ := hty 11 (by omega)
  obtain ⟨y11, r11⟩ := hf 11 f11 g11
  rw [← Option.some.inj t11] at r11
  obtain ⟨f12, g12, t12⟩ := hty 12 (by omega)
  obtain ⟨y12, r12⟩ := hf 12 f12 g12
  rw [← Option.some.inj t12] at r12
  obtain ⟨f13, g13, t13⟩ := hty 13 (by omega)
  obtain ⟨y13, r13⟩ := hf 13 f13 g13
  rw [← Option.some.inj t13] at r13
  obtain ⟨i0, e0, _, _⟩ := DataW.trod_int Try.underlying3 r0
  obtain ⟨b1, e1, _⟩ := DataW.trod_bool Try.underlying4 r1
  obtain ⟨i2, e2, _, _⟩ := DataW.trod_int Try.underlying3 r2
  obtain ⟨b3, e3, _⟩ := DataW.trod_bool Try.underlying4 r3
  obtain ⟨b4, e4, _⟩ := DataW.trod_bool Try.underlying4 r4
  obtain ⟨b5, e5, _⟩ := DataW.trod_bool Try.underlying4 r5
  obtain ⟨b6, e6, _⟩ := DataW.trod_bool Try.underlying4 r6
  obtain ⟨b7, e7, _⟩ := DataW.trod_bool Try.underlying4 r7
  obtain ⟨b8, e8, _⟩ := DataW.trod_bool Try.underlying4 r8
  obtain ⟨i9, e9, _, _⟩ := DataW.trod_int Try.underlying3 r9
  obtain ⟨q0, qc, Q, e10, _, hQ, zQ⟩ := qs_open r10
  obtain ⟨a0, ac, A, e11, n11, hA, zA⟩ := rs_open r11
  obtain ⟨u0, uc, U, e12, n12, hU, zU⟩ := rs_open r12
  obtain ⟨d0, dc, D, e13, n13, hD, zD⟩ := rs_open r13
  refine ⟨i0, i2, i9, b1, b3, b4, b5, b6, b7, b8, q0, a0, u0, d0, qc, ac, uc, dc, Q, A, U, D, ?_, ⟨hQ, hA, hU, hD, zQ, zA, zU, zD⟩, n13⟩
  rw [array14 (hsz.trans h14)]
  simp only [List.cons.injEq, and_true] at e0 e1 e2 e3 e4 e5 e6 e7 e8 e9
  rw [e0, e1, e2, e3, e4, e5, e6, e7, e8, e9, e10, e11, e12, e13]


theorem spot_none {w : World} {b off : Nat} {s : Option Nat} {v : Value} (h : w.cell? ⟨b, off, s⟩ = some v) : s = none ∧ b < w.heap.size := by
  unfold World.cell? at h
  split at h
  · rename_i c e f hh
    split at h
    · cases h
    · rename_i hs
      exact ⟨by cases s with | none => rfl | some x => exact absurd rfl hs, (Array.getElem?_eq_some_iff.1 hh).1⟩
  · cases h
set_option maxRecDepth 100000 in
/-- bytes that come in -/
theorem bytes_open {H : Type} {enc : TypeId × Value → H} {W : World} {r : Reach} {b0 : Nat} {v : Value} {d : DataW H} {p : List MemPlace}
    (hv : Value.okWide Try.prog W r b0 26 v) (h : DataW.Trod enc Try.prog W 0 (fun _ => true) true 26 v d p) :
    ∃ (a0 : Option Addr) (cap : Nat) (B : ByteArray), v = .slice a0 B.size cap ∧ B.size ≤ cap ∧ cap ≤ maxLen ∧ (a0 = none → cap = 0) ∧ ByAt W a0 B := by
  obtain ⟨a0, len, cap, rfl⟩ := okWide_slice Try.underlying26 hv
  obtain ⟨fuel, hf⟩ := h
  rcases open_ints Try.underlying26 Try.underlying5 cellsU8 hf with ⟨hcs, hx⟩ | ⟨a, len', cap', zs, hcs, _, hl, hm, hz, hx, hcell, hwz⟩
  · simp [Value.cells] at hcs
    obtain ⟨rfl, rfl, rfl⟩ := hcs
    exact ⟨none, 0, ⟨#[]⟩, rfl, Nat.le_refl _, Nat.zero_le _, fun _ => rfl, fun h => absurd h (Nat.lt_irrefl 0)⟩
  · simp [Value.cells] at hcs
    obtain ⟨rfl, rfl, rfl⟩ := hcs
    simp only [if_true] at hz
    have hll : (zs.take len).length = len := by rw [List.length_take]; omega
    have hsz : (strOfNums (zs.take len)).size = len := by rw [strOfNums_size]; exact hll
    refine ⟨some a, cap, strOfNums (zs.take len), by rw [hsz], by omega, hm, fun e => (by cases e), fun h0 => ?_⟩
    obtain ⟨b, off, spot⟩ := a
    have hc0 := hcell 0 (by omega)
    obtain ⟨rfl, hb⟩ := spot_none (by simpa [Addr.add] using hc0)
    refine ⟨b, off, rfl, hb, Go.Lib.bytes_of_nums hll (fun x hx => ?_) (fun k hk => ?_)⟩
    · have := hwz x (List.mem_of_mem_take hx)
      have e1 : IntKind.u8.min = 0 := rfl
      have e2 : IntKind.u8.max = 255 := rfl
      simp [Lit.wf, e1, e2] at this
      omega
    · have hck := hcell k (by omega)
      have ea : (⟨b, off, none⟩ : Addr).add k = ⟨b, off + k, none⟩ := by
        unfold Addr.add
        by_cases h : k = 0
        · subst h; rfl
        · rw [if_neg h]
      rw [ea] at hck
      rw [hck, List.getD_eq_getElem?_getD, List.getD_eq_getElem?_getD, List.getElem?_take, if_pos hk]
end Go.Proofs.Ytlgogddobjkngaa.Fra
