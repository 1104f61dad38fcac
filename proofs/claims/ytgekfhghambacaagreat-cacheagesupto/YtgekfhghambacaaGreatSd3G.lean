import Derived.Test.YtgekfhghambacaaGreatSd1G
import Derived.Test.YtgekfhghambacaaGreatGr0G
namespace Go.Proofs.YtgekfhghambacaaGreat
set_option linter.unusedVariables false
open Go.RowKit Go.Shelf Go.Proofs.YtgekfhghambacaaGreat.Nm

/-- a sum in memory -/
structure SumAt (w : World) (B h M P : Nat) : Prop where
  lt : B < w.heap.size
  c0 : w.cell? ⟨B, 0, none⟩ = some (.int .u64 (h : Int))
  c1 : w.cell? ⟨B, 1, none⟩ = some (.int .u64 (M : Int))
  c2 : w.cell? ⟨B, 2, none⟩ = some (.int .u64 (P : Int))
  f0 : w.frozen? ⟨B, 0, none⟩ = false

theorem SumAt.set {w : World} {B h M P : Nat} (hS : SumAt w B h M P) (h' : Nat) : SumAt (w.setCell ⟨B, 0, none⟩ (.int .u64 (h' : Int))).drew B h' M P := by
  refine ⟨by simpa [World.setCell] using hS.lt, ?_, ?_, ?_, ?_⟩
  · exact World.cell?_setCell_same' _ _ _ (by rw [hS.c0]; rfl)
  · exact (World.cell?_setCell_other _ _ _ _ (fun e => by simp at e)).trans hS.c1
  · exact (World.cell?_setCell_other _ _ _ _ (fun e => by simp at e)).trans hS.c2
  · exact (World.frozen?_setCell _ _ _ _).trans hS.f0
theorem SumAt.other {w : World} {B C h M P : Nat} (hS : SumAt w B h M P) (hne : C ≠ B) (v : Value) : SumAt (w.setCell ⟨C, 0, none⟩ v).drew B h M P := by
  refine ⟨by simpa [World.setCell] using hS.lt, ?_, ?_, ?_, ?_⟩
  · exact (cell_far w _ _ _ hne).trans hS.c0
  · exact (cell_far w _ _ _ hne).trans hS.c1
  · exact (cell_far w _ _ _ hne).trans hS.c2
  · exact (World.frozen?_setCell _ _ _ _).trans hS.f0
theorem SumAt.below {w w' : World} {B h M P : Nat} (hS : SumAt w B h M P) (hb : Below w.heap.size w w') : SumAt w' B h M P :=
  ⟨Nat.lt_of_lt_of_le hS.lt hb.size, (hb.cell (p := ⟨B, 0, none⟩) hS.lt).trans hS.c0, (hb.cell (p := ⟨B, 1, none⟩) hS.lt).trans hS.c1, (hb.cell (p := ⟨B, 2, none⟩) hS.lt).trans hS.c2, (hb.frozen (p := ⟨B, 0, none⟩) hS.lt).trans hS.f0⟩

set_option maxRecDepth 100000 in
set_option maxHeartbeats 1000000 in
/-- (*sum).add -/
theorem add_any (B h M P b : Nat) (w : World) (hS : SumAt w B h M P) (hb : b < 256) (hh : h < P) (hM : M ≤ 1048576) (hP : 1 < P) (hP2 : P ≤ 1099511627776) :
    Calls Tryz.prog 172 #[.pointer (some ⟨B, 0, none⟩), .int .u8 (b : Int)] w fun e w' => e = .returned (.tuple #[]) ∧ Hid (w' = (w.setCell ⟨B, 0, none⟩ (.int .u64 (((h * M + b + 1) % P : Nat) : Int))).drew) := by
  obtain ⟨z, hz⟩ : ∃ z : Nat, h * M = z := ⟨_, rfl⟩
  have hzl : z ≤ 1152921504606846976 := by rw [← hz]; exact Nat.le_trans (Nat.mul_le_mul (Nat.le_of_lt (Nat.lt_of_lt_of_le hh hP2)) hM) (by decide)
  have hzi : (h : Int) * (M : Int) = (z : Int) := by rw [← hz]; simp
  have hP0 : ¬ (P : Int) = 0 := by omega
  have c0 := hS.c0
  have c1 := hS.c1
  have c2 := hS.c2
  have f0 := hS.f0
  rw [hz]
  go_enter Tryz.func172, Tryz.ntmps172
  go_wp2_with fail
  go_region
  go_end0
  refine ⟨rfl, ?_⟩
  unfold Hid
  rw [show (((z + b + 1) % P : Nat) : Int) = ((z : Int) + (b : Int) + 1) % (P : Int) by simp]

set_option maxRecDepth 100000 in
set_option maxHeartbeats 1000000 in
/-- (*sum).bytes -/
theorem sumBytes_any (B h M P : Nat) (w : World) (hS : SumAt w B h M P) (hh : h ≤ 1099511627776) :
    Calls Tryz.prog 173 #[.pointer (some ⟨B, 0, none⟩)] w fun e w' => e = .returned (.string (nB h 5)) ∧ Below w.heap.size w w' := by
  have c0 := hS.c0
  go_enter Tryz.func173, Tryz.ntmps173
  go_wp2_with (go_at_call 174; refine (spellBytes_any 5 h _ (by omega) (by omega)).mono ?_; rintro e w1 ⟨rfl, hB1⟩)
  go_ret
  exact ⟨rfl, hB1⟩

set_option maxRecDepth 100000 in
set_option maxHeartbeats 2000000 in
/-- seal.feed -/
theorem feed_any (s : ByteArray) (M P N R : Nat) (hM : M ≤ 1048576) (hP : 1 < P) (hP2 : P ≤ 1099511627776) (hN1 : N ≤ 1048576) (hR : 1 < R) (hR2 : R ≤ 1099511627776) (B C D : Nat) (w : World) (hs : s.size ≤ 2097152) (h1 : SumAt w B 1 M P) (h2 : SumAt w C 1 N R) (hBC : B ≠ C) (hBD : B ≠ D) (hCD : C ≠ D)
    (d0 : w.cell? ⟨D, 0, none⟩ = some (.func (Fn.func 172) #[.pointer (some ⟨B, 0, none⟩)] #[])) (d1 : w.cell? ⟨D, 1, none⟩ = some (.func (Fn.func 172) #[.pointer (some ⟨C, 0, none⟩)] #[])) (base : Nat) (hB : base ≤ B) (hC : base ≤ C) :
    Calls Tryz.prog 171 #[.string s, .slice (some ⟨D, 0, none⟩) 2 2] w fun e w' => e = .returned (.tuple #[]) ∧ SumAt w' B (hN M P s s.size) M P ∧ SumAt w' C (hN N R s s.size) N R ∧ Below base w w' := by
  have H1 := hide' h1
  have H2 := hide' h2
  have D0 := hide' d0
  have D1 := hide' d1
  have HN := hide' (And.intro hBC (And.intro hBD hCD))
  clear h1 h2 d0 d1 hBC hBD hCD
  go_enter Tryz.func171, Tryz.ntmps171
  go_wp2_with fail
  go_loopw [9] (fun i wr => ∃ k : Nat, i = .int .i64 k ∧ k ≤ s.size ∧ Hid (SumAt wr B (hN M P s k) M P ∧ SumAt wr C (hN N R s k) N R ∧ wr.cell? ⟨D, 0, none⟩ = w.cell? ⟨D, 0, none⟩ ∧ wr.cell? ⟨D, 1, none⟩ = w.cell? ⟨D, 1, none⟩ ∧ Below base w wr))
    (fun i _ => s.size - (intOf i).toNat)
  case atStart => exact ⟨0, rfl, Nat.zero_le _, H1.out, H2.out, rfl, rfl, Below.refl _ _⟩
  case round =>
    obtain ⟨k, rfl, hk, HR⟩ := hrel
    by_cases hlt : k < s.size
    · obtain ⟨y, hy, hy256⟩ : ∃ y, bt s k = y ∧ y < 256 := ⟨_, rfl, bt_lt _ _⟩
      have hby : (s[k]'hlt).toNat = y := (bt_eq hlt).trans hy
      have HE1 : Hid (hN M P s (k + 1) = (hN M P s k * M + y + 1) % P) := by unfold Hid; rw [hN, hy]
      have HE2 : Hid (hN N R s (k + 1) = (hN N R s k * N + y + 1) % R) := by unfold Hid; rw [hN, hy]
      have hl1 := hide' (hN_lt M P s hP k)
      have hl2 := hide' (hN_lt N R s hR k)
      have e0 : wr.cell? ⟨D, 0, none⟩ = _ := HR.out.2.2.1.trans D0.out
      generalize hN M P s k = x1 at *
      generalize hN N R s k = x2 at *
      go_wp2_with fail
      refine wp_loop_rounds 3 ?_
      rw [rounds_succ]
      go_wp2_with (go_at_call 172; refine (add_any B x1 _ _ y _ HR.out.1 hy256 hl1.out hM hP hP2).mono ?_; rintro e w1 ⟨rfl, HW⟩)
      have e1 : w1.cell? ⟨D, 1, none⟩ = some (.func (Fn.func 172) #[.pointer (some ⟨C, 0, none⟩)] #[]) := by rw [HW.out]; exact (cell_far wr _ _ _ HN.out.2.1).trans (HR.out.2.2.2.1.trans D1.out)
      rw [rounds_succ]
      go_wp2_with (go_at_call 172; refine (add_any C x2 _ _ y _ (by rw [HW.out]; exact HR.out.2.1.other HN.out.1 _) hy256 hl2.out hN1 hR hR2).mono ?_; rintro e w2 ⟨rfl, HW2⟩)
      rw [rounds_succ]
      go_wp2_with fail
      refine ⟨⟨k + 1, by go_num, by omega, ?_⟩, by simp [intOf]; omega⟩
      have h1 := HR.out.1
      have h2 := HR.out.2.1
      show SumAt _ _ _ _ _ ∧ _
      rw [HW2.out, HW.out, HE1.out, HE2.out]
      refine ⟨(h1.set _).other HN.out.1.symm _, (h2.other HN.out.1 _).set _, ?_, ?_, ?_⟩
      · exact (cell_far _ _ _ _ HN.out.2.2).trans ((cell_far wr _ _ _ HN.out.2.1).trans HR.out.2.2.1)
      · exact (cell_far _ _ _ _ HN.out.2.2).trans ((cell_far wr _ _ _ HN.out.2.1).trans HR.out.2.2.2.1)
      · exact (((HR.out.2.2.2.2.setCell (p := ⟨B, 0, none⟩) hB _).drew).setCell (p := ⟨C, 0, none⟩) hC _).drew
    · obtain rfl : k = s.size := by omega
      go_wp2
      go_end0
      exact ⟨rfl, HR.out.1, HR.out.2.1, HR.out.2.2.2.2⟩

theorem cells3 (w : World) (a b c : Value) (t : TypeId) : (w.alloc (.cells #[a, b, c] t)).cell? ⟨w.heap.size, 0, none⟩ = some a ∧ (w.alloc (.cells #[a, b, c] t)).cell? ⟨w.heap.size, 1, none⟩ = some b ∧ (w.alloc (.cells #[a, b, c] t)).cell? ⟨w.heap.size, 2, none⟩ = some c ∧ (w.alloc (.cells #[a, b, c] t)).frozen? ⟨w.heap.size, 0, none⟩ = false := by
  have : (w.alloc (.cells #[a, b, c] t)).heap[w.heap.size]? = some (.cells #[a, b, c] t) := by
    show (w.heap.push _)[w.heap.size]? = _
    simp
  refine ⟨?_, ?_, ?_, ?_⟩
  · rw [World.cell?_alloc_mark]; rfl
  · rw [World.cell?_alloc_mark]; rfl
  · rw [World.cell?_alloc_mark]; rfl
  · simp only [World.frozen?, this]; simp
theorem sum_new (w : World) (h M P : Nat) (t : TypeId) : SumAt (w.alloc (.cells #[.int .u64 (h : Int), .int .u64 (M : Int), .int .u64 (P : Int)] t)) w.heap.size h M P := by
  obtain ⟨h0, h1, h2, h3⟩ := cells3 w (.int .u64 (h : Int)) (.int .u64 (M : Int)) (.int .u64 (P : Int)) t
  exact ⟨by simp, h0, h1, h2, h3⟩
theorem SumAt.alloc {w : World} {B h M P : Nat} (hS : SumAt w B h M P) (o : Obj) : SumAt (w.alloc o) B h M P := hS.below ((Below.refl _ _).alloc (Nat.le_refl _) _)

/-- the world in which feed is called -/
theorem feed_start (W : World) (f g : Value) (a b c d : Nat) (t1 t2 t3 : TypeId) (W3 : World) (h3 : W3 = ((W.alloc (.cells #[.int .u64 1, .int .u64 (a : Int), .int .u64 (b : Int)] t1)).alloc (.cells #[.int .u64 1, .int .u64 (c : Int), .int .u64 (d : Int)] t2)).alloc (.cells #[f, g] t3)) :
    SumAt W3 W.heap.size 1 a b ∧ SumAt W3 (W.heap.size + 1) 1 c d ∧ W3.cell? ⟨W.heap.size + 1 + 1, 0, none⟩ = some f ∧ W3.cell? ⟨W.heap.size + 1 + 1, 1, none⟩ = some g ∧ Below W.heap.size W W3 := by
  subst h3
  have hz : ((W.alloc (.cells #[.int .u64 1, .int .u64 (a : Int), .int .u64 (b : Int)] t1)).alloc (.cells #[.int .u64 1, .int .u64 (c : Int), .int .u64 (d : Int)] t2)).heap.size = W.heap.size + 1 + 1 := by rw [World.size_alloc, World.size_alloc]
  refine ⟨((sum_new W 1 a b t1).alloc _).alloc _, ?_, ?_, ?_, ?_⟩
  · have := sum_new (W.alloc (.cells #[.int .u64 1, .int .u64 (a : Int), .int .u64 (b : Int)] t1)) 1 c d t2
    rw [World.size_alloc] at this
    exact this.alloc _
  · rw [← hz, World.cell?_alloc_mark]; rfl
  · rw [← hz, World.cell?_alloc_mark]; rfl
  · exact (((Below.refl _ _).alloc (Nat.le_refl _) _).alloc (by rw [World.size_alloc]; omega) _).alloc (by rw [hz]; omega) _

set_option maxRecDepth 100000 in
set_option maxHeartbeats 2000000 in
/-- seal.Digest -/
theorem digest_any (s : ByteArray) (w : World) (hs : s.size ≤ 2097152) :
    Calls Tryz.prog 170 #[.string s] w fun e w' => e = .returned (.string (digB s)) ∧ Below w.heap.size w w' := by
  have HF := hide' (feed_any s 1000003 1099511627689 999983 1099511627563 (by decide) (by decide) (by decide) (by decide) (by decide) (by decide))
  have l1 := hN_lt 1000003 1099511627689 s (by decide) s.size
  have l2 := hN_lt 999983 1099511627563 s (by decide) s.size
  have hd : digB s = nB (hN 1000003 1099511627689 s s.size) 5 ++ nB (hN 999983 1099511627563 s s.size) 5 := rfl
  rw [hd]
  clear hd
  generalize hN 1000003 1099511627689 s s.size = x1 at *
  generalize hN 999983 1099511627563 s s.size = x2 at *
  have had : ∀ W : World, (Op.stringOp .add (nB x1 5) (nB x2 5)).run Tryz.prog W = .ok (.string (nB x1 5 ++ nB x2 5)) W := fun W => run_string_add_sum W _ _ (by rw [nB_size, nB_size]; omega)
  have L1 := hide' l1
  have L2 := hide' l2
  clear l1 l2
  go_enter Tryz.func170, Tryz.ntmps170
  go_wp2_with fail
  obtain ⟨g1, g2, g3, g4, g5⟩ := feed_start w _ _ 1000003 1099511627689 999983 1099511627563 _ _ _ _ rfl
  refine (HF.out w.heap.size (w.heap.size + 1) (w.heap.size + 1 + 1) _ hs g1 g2 (by omega) (by omega) (by omega) g3 g4 w.heap.size (Nat.le_refl _) (by omega)).mono ?_
  rintro e w1 ⟨rfl, hs1, hs2, hB1⟩
  have HB := hide' (g5.trans hB1)
  clear g1 g2 g3 g4 g5 hB1
  go_wp2_with (go_at_call 173; refine (sumBytes_any _ _ _ _ _ hs1 (by have := L1.out; omega)).mono ?_; rintro e w2 ⟨rfl, hB2⟩)
  have hs2' := hs2.below hB2
  go_wp2_with (go_at_call 173; refine (sumBytes_any _ _ _ _ _ hs2' (by have := L2.out; omega)).mono ?_; rintro e w3 ⟨rfl, hB3⟩)
  go_ret
  exact ⟨rfl, bstep (bstep HB.out hB2 HB.out.size) hB3 (Nat.le_trans HB.out.size hB2.size)⟩
end Go.Proofs.YtgekfhghambacaaGreat

namespace Go.Proofs.YtgekfhghambacaaGreat
set_option linter.unusedVariables false
open Go.RowKit Go.Shelf Go.Proofs.YtgekfhghambacaaGreat.Nm

theorem foldB_size {n : ByteArray} (h : isN n = true) : (foldB n).size ≤ 255 := by
  rw [foldB_yes h, lowB_size]; exact ((isN_iff n).1 h).1

/-- what Hash answers -/
def hashR (n salt : ByteArray) (r : Int) : Value :=
  if isN n = true then (if salt.size ≤ 255 ∧ 0 ≤ r ∧ r ≤ 50 then .tuple #[.string (hashB n salt r.toNat), .int .i64 0] else .tuple #[.string ⟨#[]⟩, .int .i64 23]) else .tuple #[.string ⟨#[]⟩, .int .i64 1]
theorem hashR_name {n salt : ByteArray} {r : Int} (h : isN n = false) : hashR n salt r = .tuple #[.string ⟨#[]⟩, .int .i64 1] := by unfold hashR; rw [if_neg (by rw [h]; simp)]
theorem hashR_arg {n salt : ByteArray} {r : Int} (h : isN n = true) (h2 : ¬ (salt.size ≤ 255 ∧ 0 ≤ r ∧ r ≤ 50)) : hashR n salt r = .tuple #[.string ⟨#[]⟩, .int .i64 23] := by unfold hashR; rw [if_pos h, if_neg h2]
theorem hashR_ok {n salt : ByteArray} {r : Nat} (h : isN n = true) (h2 : salt.size ≤ 255) (h3 : r ≤ 50) : hashR n salt (r : Int) = .tuple #[.string (hashB n salt r), .int .i64 0] := by unfold hashR; rw [if_pos h, if_pos ⟨h2, by omega, by omega⟩]; simp
theorem chk_no {n : ByteArray} (h : isN n = false) : chk n = 1 := by unfold chk; rw [h]; rfl
theorem chk_yes {n : ByteArray} (h : isN n = true) : chk n = 0 := by unfold chk; rw [h]; rfl

set_option maxRecDepth 100000 in
set_option maxHeartbeats 2000000 in
/-- seal.Hash -/
theorem hash_any (n salt : ByteArray) (r : Int) (w : World) (hn : n.size ≤ 1048576) (hs : salt.size ≤ 1048576) :
    Calls Tryz.prog 168 #[.string n, .string salt, .int .i64 r] w fun e w' => e = .returned (hashR n salt r) ∧ Below w.heap.size w w' := by
  have hnm : n.size ≤ maxLen := by unfold maxLen; omega
  cases hN : isN n with
  | false =>
    have HC := hide' (chk_no hN)
    rw [hashR_name hN]
    clear hN
    go_enter Tryz.func168, Tryz.ntmps168
    go_wp2_with (go_at_call 16; refine (check_any n _ hnm).mono ?_; rw [HC.out]; rintro e w1 ⟨rfl, hB1⟩)
    go_ret2
    exact ⟨rfl, hB1⟩
  | true =>
    have HC := hide' (chk_yes hN)
    by_cases hok : salt.size ≤ 255 ∧ 0 ≤ r ∧ r ≤ 50
    · obtain ⟨h255, hr0, hr50⟩ := hok
      obtain ⟨k, rfl⟩ : ∃ k : Nat, r = (k : Int) := ⟨r.toNat, by omega⟩
      have hk : k ≤ 50 := by omega
      rw [hashR_ok hN h255 hk]
      have hf := foldB_size hN
      have had0 : ∀ W : World, (Op.stringOp .add (foldB n) salt).run Tryz.prog W = .ok (.string (foldB n ++ salt)) W := fun W => run_string_add_sum W _ _ (by omega)
      have hz0 : (foldB n ++ salt).size ≤ 2097152 := by rw [ByteArray.size_append]; omega
      have hadk : ∀ (j : Nat) (W : World), (Op.stringOp .add (hashB n salt j) salt).run Tryz.prog W = .ok (.string (hashB n salt j ++ salt)) W := fun j W => run_string_add_sum W _ _ (by rw [hashB_size]; omega)
      have hzk : ∀ j, (hashB n salt j ++ salt).size ≤ 2097152 := fun j => by rw [ByteArray.size_append, hashB_size]; omega
      have HZ0 := hide' hz0
      have HZK := hide' hzk
      have HE0 : Hid (hashB n salt 0 = digB (foldB n ++ salt)) := rfl
      clear hN hf hz0 hzk hr0 hr50
      go_enter Tryz.func168, Tryz.ntmps168
      go_wp2_with (first
        | (go_at_call 16; refine (check_any n _ hnm).mono ?_; rw [HC.out]; rintro e w1 ⟨rfl, hB1⟩)
        | (go_at_call 39; refine (fold_any n _ hnm).mono ?_; rintro e w2 ⟨rfl, hB2⟩)
        | (go_at_call 170; refine (digest_any _ _ HZ0.out).mono ?_; rintro e w3 ⟨rfl, hB3⟩))
      have hBw := bstep (bstep hB1 hB2 hB1.size) hB3 (Nat.le_trans hB1.size hB2.size)
      rw [← HE0.out]
      go_loopw [8, 29] (fun h i wr => ∃ j : Nat, i = .int .i64 (j : Int) ∧ j ≤ k ∧ h = .string (hashB n salt j) ∧ Below w.heap.size w wr)
        (fun _ i _ => k - (intOf i).toNat)
      case atStart => exact ⟨0, rfl, Nat.zero_le _, rfl, hBw⟩
      case round =>
        obtain ⟨j, rfl, hj, rfl, hBr⟩ := hrel
        by_cases hlt : j < k
        · have hadj := hadk j
          have HEJ : Hid (hashB n salt (j + 1) = digB (hashB n salt j ++ salt)) := rfl
          go_wp2_with (go_at_call 170; refine (digest_any _ _ (HZK.out j)).mono ?_; rintro e w5 ⟨rfl, hB5⟩)
          exact ⟨⟨j + 1, by go_num, by omega, by rw [HEJ.out], bstep hBr hB5 hBr.size⟩, by simp [intOf]; omega⟩
        · obtain rfl : j = k := by omega
          go_wp2
          go_ret2
          exact ⟨rfl, hBr⟩
    · rw [hashR_arg hN hok]
      clear hN
      have hok' : 255 < salt.size ∨ (salt.size ≤ 255 ∧ r < 0) ∨ (salt.size ≤ 255 ∧ 0 ≤ r ∧ 50 < r) := by omega
      clear hok
      rcases hok' with h1 | ⟨h1, h2⟩ | ⟨h1, h2, h3⟩
      all_goals
        go_enter Tryz.func168, Tryz.ntmps168
        go_wp2_with (go_at_call 16; refine (check_any n _ hnm).mono ?_; rw [HC.out]; rintro e w1 ⟨rfl, hB1⟩)
        go_ret2
        exact ⟨rfl, hB1⟩

end Go.Proofs.YtgekfhghambacaaGreat

namespace Go.Proofs.YtgekfhghambacaaGreat.Nm
set_option linter.unusedVariables false

/-- the number that bytes are -/
def vN (s : ByteArray) : Nat → Nat
  | 0 => 0
  | k + 1 => vN s k * 256 + bt s k
theorem vN_lt (s : ByteArray) : ∀ k, vN s k < 256 ^ k
  | 0 => by simp [vN]
  | k + 1 => by
    have h1 := vN_lt s k
    have h2 := bt_lt s k
    rw [vN, Nat.pow_succ]
    omega
end Go.Proofs.YtgekfhghambacaaGreat.Nm
namespace Go.Proofs.YtgekfhghambacaaGreat
set_option linter.unusedVariables false
open Go.RowKit Go.Shelf Go.Proofs.YtgekfhghambacaaGreat.Nm

set_option maxRecDepth 100000 in
set_option maxHeartbeats 1000000 in
/-- spell.Value -/
theorem spellValue_any (s : ByteArray) (w : World) (hs : s.size ≤ 4) :
    Calls Tryz.prog 51 #[.string s] w fun e w' => e = .returned (.int .i64 (vN s s.size : Int)) ∧ w' = w := by
  go_enter Tryz.func51, Tryz.ntmps51
  go_wp2
  go_loop [3, 7] (fun a i => ∃ j : Nat, i = .int .i64 (j : Int) ∧ a = .int .i64 (vN s j : Int) ∧ j ≤ s.size) (fun _ i => s.size - (intOf i).toNat)
  case atStart => exact ⟨0, rfl, rfl, Nat.zero_le _⟩
  case round =>
    obtain ⟨j, rfl, rfl, hj⟩ := hrel
    by_cases hlt : j < s.size
    · obtain ⟨y, hy, hy256⟩ : ∃ y, bt s j = y ∧ y < 256 := ⟨_, rfl, bt_lt _ _⟩
      have hby : (s[j]'hlt).toNat = y := (bt_eq hlt).trans hy
      have hl : vN s j < 16777216 := by
        have h1 := vN_lt s j
        have h2 : 256 ^ j ≤ 256 ^ 3 := Nat.pow_le_pow_right (by omega) (by omega)
        omega
      have HE : Hid (vN s (j + 1) = vN s j * 256 + y) := by unfold Hid; rw [vN, hy]
      generalize vN s j = x at *
      have hor : bits .or .i64 ((x : Int) * 256) (y : Int) = ((x * 256 + y : Nat) : Int) := by
        have := or_shl 8 x y (by omega) (by omega) (by omega)
        simpa using this
      go_wp2_with fail
      exact ⟨⟨j + 1, by go_num, by rw [HE.out]; congr 1 <;> omega, by omega⟩, by simp [intOf]; omega⟩
    · obtain rfl : j = s.size := by omega
      go_wp2
      go_ret
      exact ⟨rfl, rfl⟩

end Go.Proofs.YtgekfhghambacaaGreat
