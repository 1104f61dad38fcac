import Derived.Test.YtdaimcccdleodaaLm1
import Derived.Lib.LazyBuf
import Derived.Deep.RegionHeld3
import Derived.Deep.RegionHeldLaw
import Derived.Deep.RegionLaw
/-
  Chapter 15: policy.partyOf. (The verifier's own text.)
-/
namespace Go.Proofs.Ytdaimcccdleodaa
set_option linter.unusedVariables false
set_option linter.unusedSimpArgs false
open Go.RowKit Go.Shelf Go.Maps

/-- whose an address is -/
def whoB (s : ByteArray) : Option ByteArray := if s.size = 4 then some (s.extract 0 3) else if s.size = 16 then some (s.extract 0 7) else none
def paZ : Value := .agg #[.int .i64 0, .int .u8 0, .int .u8 0, .int .u8 0, .int .u8 0, .int .u8 0, .int .u8 0, .int .u8 0]
def prtE (o : Option ByteArray) : Ending := .returned (.tuple #[match o with | some x => paV x | none => paZ, .bool o.isSome])
theorem szByte (w : World) : (Go.sizeOf 5).run Try.prog w = .ok 1 w := by
  have h : (Try.prog.info? 5).map (·.size) = some 1 := by kernel_rfl
  obtain ⟨i, hi, hz⟩ := Option.map_eq_some_iff.1 h
  simp [Go.sizeOf, typeInfo, hi, hz]
theorem who_pG {s x : ByteArray} (h : whoB s = some x) : paG x := by
  unfold whoB at h
  split at h
  · obtain rfl := Option.some.inj h
    left
    rw [ByteArray.size_extract]; omega
  · split at h
    · obtain rfl := Option.some.inj h
      right
      rw [ByteArray.size_extract]; omega
    · cases h

theorem bxe {w : World} {R : Nat} {T : TypeId} {a b c d e f g h : Value} (hb : Bx w R #[a, b, c, d, e, f, g, h] T) : w.cell? ⟨R, 0, none⟩ = some a ∧ w.cell? ⟨R, 1, none⟩ = some b ∧ w.cell? ⟨R, 2, none⟩ = some c ∧ w.cell? ⟨R, 3, none⟩ = some d ∧ w.cell? ⟨R, 4, none⟩ = some e ∧ w.cell? ⟨R, 5, none⟩ = some f ∧ w.cell? ⟨R, 6, none⟩ = some g ∧ w.cell? ⟨R, 7, none⟩ = some h :=
  ⟨hb.cell rfl, hb.cell rfl, hb.cell rfl, hb.cell rfl, hb.cell rfl, hb.cell rfl, hb.cell rfl, hb.cell rfl⟩
theorem below_two (w : World) (o o' : Obj) : Below w.heap.size w ((w.alloc o).alloc o') := ((Below.refl _ w).alloc (Nat.le_refl _) _).alloc (by simp) _
set_option maxRecDepth 100000 in
set_option maxHeartbeats 1000000 in
theorem party_no (s : ByteArray) (w : World) (h4 : ¬ s.size = 4) (h16 : ¬ s.size = 16) :
    Calls Try.prog 20 #[.string s] w fun e w' => e = prtE none ∧ Below w.heap.size w w' := by
  have hH := fun o o' => below_two w o o'
  have hZ : ∀ o, Bx ((w.alloc (.cells #[.int .i64 0, .int .u8 0, .int .u8 0, .int .u8 0, .int .u8 0, .int .u8 0, .int .u8 0, .int .u8 0] 59)).alloc o) w.heap.size #[.int .i64 0, .int .u8 0, .int .u8 0, .int .u8 0, .int .u8 0, .int .u8 0, .int .u8 0, .int .u8 0] 59 := fun o => (Below.heap_alloc _ _ _ (by simp)).trans (World.alloc_heap_new w _)
  have HH := hidep hH
  have HZ := hidep hZ
  clear hH hZ
  go_enter Try.func20, Try.ntmps20
  go_wp2_with fail
  obtain ⟨r0, r1, r2, r3, r4, r5, r6, r7⟩ := bxe (HZ.out (.cells #[.int .i64 s.size, .int .u8 0, .int .u8 0, .int .u8 0, .int .u8 0, .int .u8 0, .int .u8 0, .int .u8 0] 59))
  exact bodyPost_ret (v := .tuple #[paZ, .bool false]) (by simp [results, go_sem, r0, r1, r2, r3, r4, r5, r6, r7, paZ]) rfl ⟨rfl, HH.out _ _⟩

theorem bx8_set {w : World} {R : Nat} {T : TypeId} {x0 x1 x2 x3 x4 x5 x6 x7 : Value} (hb : Bx w R #[x0, x1, x2, x3, x4, x5, x6, x7] T) (a b c d e f g h : Value) : Bx ((((((((w.setCell ⟨R, 0, none⟩ a).setCell ⟨R, 1, none⟩ b).setCell ⟨R, 2, none⟩ c).setCell ⟨R, 3, none⟩ d).setCell ⟨R, 4, none⟩ e).setCell ⟨R, 5, none⟩ f).setCell ⟨R, 6, none⟩ g).setCell ⟨R, 7, none⟩ h) R #[a, b, c, d, e, f, g, h] T := by
  have k1 : Bx (w.setCell ⟨R, 0, none⟩ a) R #[a, x1, x2, x3, x4, x5, x6, x7] T := hb.set 0 a
  have k2 : Bx ((w.setCell ⟨R, 0, none⟩ a).setCell ⟨R, 1, none⟩ b) R #[a, b, x2, x3, x4, x5, x6, x7] T := k1.set 1 b
  have k3 : Bx (((w.setCell ⟨R, 0, none⟩ a).setCell ⟨R, 1, none⟩ b).setCell ⟨R, 2, none⟩ c) R #[a, b, c, x3, x4, x5, x6, x7] T := k2.set 2 c
  have k4 : Bx ((((w.setCell ⟨R, 0, none⟩ a).setCell ⟨R, 1, none⟩ b).setCell ⟨R, 2, none⟩ c).setCell ⟨R, 3, none⟩ d) R #[a, b, c, d, x4, x5, x6, x7] T := k3.set 3 d
  have k5 : Bx (((((w.setCell ⟨R, 0, none⟩ a).setCell ⟨R, 1, none⟩ b).setCell ⟨R, 2, none⟩ c).setCell ⟨R, 3, none⟩ d).setCell ⟨R, 4, none⟩ e) R #[a, b, c, d, e, x5, x6, x7] T := k4.set 4 e
  have k6 : Bx ((((((w.setCell ⟨R, 0, none⟩ a).setCell ⟨R, 1, none⟩ b).setCell ⟨R, 2, none⟩ c).setCell ⟨R, 3, none⟩ d).setCell ⟨R, 4, none⟩ e).setCell ⟨R, 5, none⟩ f) R #[a, b, c, d, e, f, x6, x7] T := k5.set 5 f
  have k7 : Bx (((((((w.setCell ⟨R, 0, none⟩ a).setCell ⟨R, 1, none⟩ b).setCell ⟨R, 2, none⟩ c).setCell ⟨R, 3, none⟩ d).setCell ⟨R, 4, none⟩ e).setCell ⟨R, 5, none⟩ f).setCell ⟨R, 6, none⟩ g) R #[a, b, c, d, e, f, g, x7] T := k6.set 6 g
  exact k7.set 7 h
theorem grown8 (w : World) (R : Nat) (a b c d e f g h : Value) : w.grownBy ((((((((w.setCell ⟨R, 0, none⟩ a).setCell ⟨R, 1, none⟩ b).setCell ⟨R, 2, none⟩ c).setCell ⟨R, 3, none⟩ d).setCell ⟨R, 4, none⟩ e).setCell ⟨R, 5, none⟩ f).setCell ⟨R, 6, none⟩ g).setCell ⟨R, 7, none⟩ h) (some R) := by
  refine grown_trans ?_ (grown_set _ R 7 h)
  refine grown_trans ?_ (grown_set _ R 6 g)
  refine grown_trans ?_ (grown_set _ R 5 f)
  refine grown_trans ?_ (grown_set _ R 4 e)
  refine grown_trans ?_ (grown_set _ R 3 d)
  refine grown_trans ?_ (grown_set _ R 2 c)
  refine grown_trans ?_ (grown_set _ R 1 b)
  exact grown_set _ R 0 a
theorem list_of3 {α : Type} {l : List α} (h : l.length = 3) : ∃ a b c, l = [a, b, c] := by
  match l, h with
  | [a, b, c], _ => exact ⟨a, b, c, rfl⟩
theorem list_of7 {α : Type} {l : List α} (h : l.length = 7) : ∃ a b c d e f g, l = [a, b, c, d, e, f, g] := by
  match l, h with
  | [a, b, c, d, e, f, g], _ => exact ⟨a, b, c, d, e, f, g, rfl⟩
theorem grown_setCells (R : Nat) : ∀ (vs : List Value) (o : Nat) (w : World), w.grownBy (w.setCells R o vs) (some R)
  | [], _, w => grown_refl w _
  | v :: r, o, w => grown_trans (grown_set w R o v) (grown_setCells R r (o + 1) _)

theorem party_4_plain {x : ByteArray} {w : World} {R : Nat} {T : TypeId} (hx : x.size = 3) (h : Bx w R #[.int .i64 4, .int .u8 0, .int .u8 0, .int .u8 0, .int .u8 0, .int .u8 0, .int .u8 0, .int .u8 0] T) : Bx (w.setCells R 1 (x.data.toList.map fun b => Value.int .u8 (b.toNat : Int))) R #[.int .i64 4, .int .u8 (pb x 0), .int .u8 (pb x 1), .int .u8 (pb x 2), .int .u8 (pb x 3), .int .u8 (pb x 4), .int .u8 (pb x 5), .int .u8 (pb x 6)] T := by
  obtain ⟨a, b, c, hl⟩ := list_of3 (l := x.data.toList) hx
  have hp : ∀ i, pb x i = (([a, b, c].getD i 0).toNat : Int) := fun i => by unfold pb; rw [hl]
  rw [hl]
  simp only [hp]
  have h1 := h.set 1 (.int .u8 (a.toNat : Int))
  have h2 := h1.set 2 (.int .u8 (b.toNat : Int))
  have h3 := h2.set 3 (.int .u8 (c.toNat : Int))
  exact h3
set_option maxRecDepth 100000 in
set_option maxHeartbeats 1000000 in
theorem party_4 (s : ByteArray) (w : World) (h4 : s.size = 4) :
    Calls Try.prog 20 #[.string s] w fun e w' => e = prtE (some (s.extract 0 3)) ∧ Below w.heap.size w w' := by
  obtain ⟨wa, hwa⟩ : ∃ wa, (w.alloc (.cells #[.int .i64 0, .int .u8 0, .int .u8 0, .int .u8 0, .int .u8 0, .int .u8 0, .int .u8 0, .int .u8 0] 59)).alloc (.cells #[.int .i64 4, .int .u8 0, .int .u8 0, .int .u8 0, .int .u8 0, .int .u8 0, .int .u8 0, .int .u8 0] 59) = wa := ⟨_, rfl⟩
  have HP : Hid (Bx wa (w.heap.size + 1) #[.int .i64 4, .int .u8 0, .int .u8 0, .int .u8 0, .int .u8 0, .int .u8 0, .int .u8 0, .int .u8 0] 59) := by
    have := World.alloc_heap_new (w.alloc (.cells #[.int .i64 0, .int .u8 0, .int .u8 0, .int .u8 0, .int .u8 0, .int .u8 0, .int .u8 0, .int .u8 0] 59)) (.cells #[.int .i64 4, .int .u8 0, .int .u8 0, .int .u8 0, .int .u8 0, .int .u8 0, .int .u8 0, .int .u8 0] 59)
    rw [hwa] at this
    have e : (w.alloc (.cells #[.int .i64 0, .int .u8 0, .int .u8 0, .int .u8 0, .int .u8 0, .int .u8 0, .int .u8 0, .int .u8 0] 59)).heap.size = w.heap.size + 1 := by simp
    rw [e] at this
    exact this
  have HZ : Hid (Bx wa w.heap.size #[.int .i64 0, .int .u8 0, .int .u8 0, .int .u8 0, .int .u8 0, .int .u8 0, .int .u8 0, .int .u8 0] 59) := hwa ▸ (Below.heap_alloc _ _ _ (by simp)).trans (World.alloc_heap_new w _)
  have HB : Hid (Below w.heap.size w wa) := hwa ▸ below_two w _ _
  have HW := hidep hwa
  clear hwa
  obtain ⟨x, hx⟩ : ∃ x, s.extract 0 3 = x := ⟨_, rfl⟩
  have HX : Hid (x.size = 3) := by
    have : (s.extract 0 3).size = 3 := by rw [ByteArray.size_extract]; omega
    rw [← hx]; exact this
  obtain ⟨wc, hwc⟩ : ∃ wc, wa.drew.setCells (w.heap.size + 1) 1 (x.data.toList.map fun b => Value.int .u8 (b.toNat : Int)) = wc := ⟨_, rfl⟩
  have HG : Hid (wa.grownBy wc (some (w.heap.size + 1))) := hwc ▸ grown_trans (grown_drewN wa 1 _) (grown_setCells _ _ _ wa.drew)
  have HPc : Hid (Bx wc (w.heap.size + 1) #[.int .i64 4, .int .u8 (pb x 0), .int .u8 (pb x 1), .int .u8 (pb x 2), .int .u8 (pb x 3), .int .u8 (pb x 4), .int .u8 (pb x 5), .int .u8 (pb x 6)] 59) := hwc ▸ party_4_plain HX.out (w := wa.drew) HP.out
  have HZc : Hid (Bx wc w.heap.size #[.int .i64 0, .int .u8 0, .int .u8 0, .int .u8 0, .int .u8 0, .int .u8 0, .int .u8 0, .int .u8 0] 59) := HZ.out.grown HG.out (by simp)
  have HBc : Hid (Below w.heap.size w wc) := HB.out.grown HG.out HB.out.size (fun k e => by cases e; omega)
  rw [hx]
  go_enter Try.func20, Try.ntmps20
  go_wp2_with fail
  have hwa := HW.out
  rw [hwa]
  go_region_law (refine step_copy_string rfl _ _ _ _ rfl 5 Try.underlying73 szByte (w.heap.size + 1) 1 7 7 rfl x rfl (by have := HX.out; omega) (fun j hj => by have := HX.out; exact Option.isSome_iff_exists.2 ⟨_, HP.out.cell (j := 1 + j) (v := .int .u8 0) (by match j, (show j < 7 by omega) with | 0, _ => rfl | 1, _ => rfl | 2, _ => rfl | 3, _ => rfl | 4, _ => rfl | 5, _ => rfl | 6, _ => rfl)⟩) (fun j hj => HP.out.free (1 + j)) ?_)
  obtain ⟨t0, t1, t2, t3, t4, t5, t6, t7⟩ := bxe HPc.out
  obtain ⟨z0, z1, z2, z3, z4, z5, z6, z7⟩ := bxe HZc.out
  have f0 := HZc.out.free 0
  have f1 := HZc.out.free 1
  have f2 := HZc.out.free 2
  have f3 := HZc.out.free 3
  have f4 := HZc.out.free 4
  have f5 := HZc.out.free 5
  have f6 := HZc.out.free 6
  have f7 := HZc.out.free 7
  clear hwa HW
  go_wp2_with fail
  have hb8 := bx8_set HZc.out (.int .i64 4) (.int .u8 (pb x 0)) (.int .u8 (pb x 1)) (.int .u8 (pb x 2)) (.int .u8 (pb x 3)) (.int .u8 (pb x 4)) (.int .u8 (pb x 5)) (.int .u8 (pb x 6))
  have hbf := HBc.out.grown (grown8 wc w.heap.size (.int .i64 4) (.int .u8 (pb x 0)) (.int .u8 (pb x 1)) (.int .u8 (pb x 2)) (.int .u8 (pb x 3)) (.int .u8 (pb x 4)) (.int .u8 (pb x 5)) (.int .u8 (pb x 6))) HBc.out.size (fun k e => by cases e; exact Nat.le_refl _)
  generalize ((((((((wc.setCell ⟨w.heap.size, 0, none⟩ (.int .i64 4)).setCell ⟨w.heap.size, 1, none⟩ (.int .u8 (pb x 0))).setCell ⟨w.heap.size, 2, none⟩ (.int .u8 (pb x 1))).setCell ⟨w.heap.size, 3, none⟩ (.int .u8 (pb x 2))).setCell ⟨w.heap.size, 4, none⟩ (.int .u8 (pb x 3))).setCell ⟨w.heap.size, 5, none⟩ (.int .u8 (pb x 4))).setCell ⟨w.heap.size, 6, none⟩ (.int .u8 (pb x 5))).setCell ⟨w.heap.size, 7, none⟩ (.int .u8 (pb x 6))) = wz at hb8 hbf ⊢
  obtain ⟨r0, r1, r2, r3, r4, r5, r6, r7⟩ := bxe hb8
  have hp : psz x = 4 := by unfold psz; simp [HX.out]
  exact bodyPost_ret (v := .tuple #[paV x, .bool true]) (by simp [results, go_sem, r0, r1, r2, r3, r4, r5, r6, r7, paV, hp]) rfl ⟨rfl, hbf⟩

theorem party_16_plain {x : ByteArray} {w : World} {R : Nat} {T : TypeId} (hx : x.size = 7) (h : Bx w R #[.int .i64 16, .int .u8 0, .int .u8 0, .int .u8 0, .int .u8 0, .int .u8 0, .int .u8 0, .int .u8 0] T) : Bx (w.setCells R 1 (x.data.toList.map fun b => Value.int .u8 (b.toNat : Int))) R #[.int .i64 16, .int .u8 (pb x 0), .int .u8 (pb x 1), .int .u8 (pb x 2), .int .u8 (pb x 3), .int .u8 (pb x 4), .int .u8 (pb x 5), .int .u8 (pb x 6)] T := by
  obtain ⟨a, b, c, d, e, f, g, hl⟩ := list_of7 (l := x.data.toList) hx
  have hp : ∀ i, pb x i = (([a, b, c, d, e, f, g].getD i 0).toNat : Int) := fun i => by unfold pb; rw [hl]
  rw [hl]
  simp only [hp]
  have h1 := h.set 1 (.int .u8 (a.toNat : Int))
  have h2 := h1.set 2 (.int .u8 (b.toNat : Int))
  have h3 := h2.set 3 (.int .u8 (c.toNat : Int))
  have h4 := h3.set 4 (.int .u8 (d.toNat : Int))
  have h5 := h4.set 5 (.int .u8 (e.toNat : Int))
  have h6 := h5.set 6 (.int .u8 (f.toNat : Int))
  exact h6.set 7 (.int .u8 (g.toNat : Int))
set_option maxRecDepth 100000 in
set_option maxHeartbeats 1000000 in
theorem party_16 (s : ByteArray) (w : World) (h4 : s.size = 16) :
    Calls Try.prog 20 #[.string s] w fun e w' => e = prtE (some (s.extract 0 7)) ∧ Below w.heap.size w w' := by
  obtain ⟨wa, hwa⟩ : ∃ wa, (w.alloc (.cells #[.int .i64 0, .int .u8 0, .int .u8 0, .int .u8 0, .int .u8 0, .int .u8 0, .int .u8 0, .int .u8 0] 59)).alloc (.cells #[.int .i64 16, .int .u8 0, .int .u8 0, .int .u8 0, .int .u8 0, .int .u8 0, .int .u8 0, .int .u8 0] 59) = wa := ⟨_, rfl⟩
  have HP : Hid (Bx wa (w.heap.size + 1) #[.int .i64 16, .int .u8 0, .int .u8 0, .int .u8 0, .int .u8 0, .int .u8 0, .int .u8 0, .int .u8 0] 59) := by
    have := World.alloc_heap_new (w.alloc (.cells #[.int .i64 0, .int .u8 0, .int .u8 0, .int .u8 0, .int .u8 0, .int .u8 0, .int .u8 0, .int .u8 0] 59)) (.cells #[.int .i64 16, .int .u8 0, .int .u8 0, .int .u8 0, .int .u8 0, .int .u8 0, .int .u8 0, .int .u8 0] 59)
    rw [hwa] at this
    have e : (w.alloc (.cells #[.int .i64 0, .int .u8 0, .int .u8 0, .int .u8 0, .int .u8 0, .int .u8 0, .int .u8 0, .int .u8 0] 59)).heap.size = w.heap.size + 1 := by simp
    rw [e] at this
    exact this
  have HZ : Hid (Bx wa w.heap.size #[.int .i64 0, .int .u8 0, .int .u8 0, .int .u8 0, .int .u8 0, .int .u8 0, .int .u8 0, .int .u8 0] 59) := hwa ▸ (Below.heap_alloc _ _ _ (by simp)).trans (World.alloc_heap_new w _)
  have HB : Hid (Below w.heap.size w wa) := hwa ▸ below_two w _ _
  have HW := hidep hwa
  clear hwa
  obtain ⟨x, hx⟩ : ∃ x, s.extract 0 7 = x := ⟨_, rfl⟩
  have HX : Hid (x.size = 7) := by
    have : (s.extract 0 7).size = 7 := by rw [ByteArray.size_extract]; omega
    rw [← hx]; exact this
  obtain ⟨wc, hwc⟩ : ∃ wc, wa.drew.setCells (w.heap.size + 1) 1 (x.data.toList.map fun b => Value.int .u8 (b.toNat : Int)) = wc := ⟨_, rfl⟩
  have HG : Hid (wa.grownBy wc (some (w.heap.size + 1))) := hwc ▸ grown_trans (grown_drewN wa 1 _) (grown_setCells _ _ _ wa.drew)
  have HPc : Hid (Bx wc (w.heap.size + 1) #[.int .i64 16, .int .u8 (pb x 0), .int .u8 (pb x 1), .int .u8 (pb x 2), .int .u8 (pb x 3), .int .u8 (pb x 4), .int .u8 (pb x 5), .int .u8 (pb x 6)] 59) := hwc ▸ party_16_plain HX.out (w := wa.drew) HP.out
  have HZc : Hid (Bx wc w.heap.size #[.int .i64 0, .int .u8 0, .int .u8 0, .int .u8 0, .int .u8 0, .int .u8 0, .int .u8 0, .int .u8 0] 59) := HZ.out.grown HG.out (by simp)
  have HBc : Hid (Below w.heap.size w wc) := HB.out.grown HG.out HB.out.size (fun k e => by cases e; omega)
  rw [hx]
  go_enter Try.func20, Try.ntmps20
  go_wp2_with fail
  have hwa := HW.out
  rw [hwa]
  go_region_law (refine step_copy_string rfl _ _ _ _ rfl 5 Try.underlying73 szByte (w.heap.size + 1) 1 7 7 rfl x rfl (by have := HX.out; omega) (fun j hj => by have := HX.out; exact Option.isSome_iff_exists.2 ⟨_, HP.out.cell (j := 1 + j) (v := .int .u8 0) (by match j, (show j < 7 by omega) with | 0, _ => rfl | 1, _ => rfl | 2, _ => rfl | 3, _ => rfl | 4, _ => rfl | 5, _ => rfl | 6, _ => rfl)⟩) (fun j hj => HP.out.free (1 + j)) ?_)
  obtain ⟨t0, t1, t2, t3, t4, t5, t6, t7⟩ := bxe HPc.out
  obtain ⟨z0, z1, z2, z3, z4, z5, z6, z7⟩ := bxe HZc.out
  have f0 := HZc.out.free 0
  have f1 := HZc.out.free 1
  have f2 := HZc.out.free 2
  have f3 := HZc.out.free 3
  have f4 := HZc.out.free 4
  have f5 := HZc.out.free 5
  have f6 := HZc.out.free 6
  have f7 := HZc.out.free 7
  clear hwa HW
  go_wp2_with fail
  have hb8 := bx8_set HZc.out (.int .i64 16) (.int .u8 (pb x 0)) (.int .u8 (pb x 1)) (.int .u8 (pb x 2)) (.int .u8 (pb x 3)) (.int .u8 (pb x 4)) (.int .u8 (pb x 5)) (.int .u8 (pb x 6))
  have hbf := HBc.out.grown (grown8 wc w.heap.size (.int .i64 16) (.int .u8 (pb x 0)) (.int .u8 (pb x 1)) (.int .u8 (pb x 2)) (.int .u8 (pb x 3)) (.int .u8 (pb x 4)) (.int .u8 (pb x 5)) (.int .u8 (pb x 6))) HBc.out.size (fun k e => by cases e; exact Nat.le_refl _)
  generalize ((((((((wc.setCell ⟨w.heap.size, 0, none⟩ (.int .i64 16)).setCell ⟨w.heap.size, 1, none⟩ (.int .u8 (pb x 0))).setCell ⟨w.heap.size, 2, none⟩ (.int .u8 (pb x 1))).setCell ⟨w.heap.size, 3, none⟩ (.int .u8 (pb x 2))).setCell ⟨w.heap.size, 4, none⟩ (.int .u8 (pb x 3))).setCell ⟨w.heap.size, 5, none⟩ (.int .u8 (pb x 4))).setCell ⟨w.heap.size, 6, none⟩ (.int .u8 (pb x 5))).setCell ⟨w.heap.size, 7, none⟩ (.int .u8 (pb x 6))) = wz at hb8 hbf ⊢
  obtain ⟨r0, r1, r2, r3, r4, r5, r6, r7⟩ := bxe hb8
  have hp : psz x = 16 := by unfold psz; simp [HX.out]
  exact bodyPost_ret (v := .tuple #[paV x, .bool true]) (by simp [results, go_sem, r0, r1, r2, r3, r4, r5, r6, r7, paV, hp]) rfl ⟨rfl, hbf⟩

/-- policy.partyOf -/
theorem party_any (s : ByteArray) (w : World) :
    Calls Try.prog 20 #[.string s] w fun e w' => e = prtE (whoB s) ∧ Below w.heap.size w w' := by
  unfold whoB
  split
  · rename_i h; exact party_4 s w h
  · split
    · rename_i h; exact party_16 s w h
    · rename_i h4 h16; exact party_no s w h4 h16
end Go.Proofs.Ytdaimcccdleodaa
