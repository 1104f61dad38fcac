import Derived.Test.YtennkhdhnbdbeaaGreatSgcG
/-
  seal.Verify, in its other ends. (The verifier's own text.)
-/
namespace Go.Proofs.YtennkhdhnbdbeaaGreat
set_option linter.unusedVariables false
set_option linter.unusedSimpArgs false
open Go.RowKit Go.Shelf Go.Sort Go.Proofs.YtennkhdhnbdbeaaGreat.Nm

set_option maxRecDepth 100000 in
set_option maxHeartbeats 4000000 in
theorem verify_form1 (L : List Rn) (p : Option Addr) (cap nl : Nat) (so D q dk : ByteArray) (sy sc sl now : Int) (w : World) (hat : RsAt w p L)
    (HS : Hid (∀ W : World, RsAt W p L → Calls Tryz.prog 22 #[.slice p nl cap] W fun r w' => r = .returned (.bool false) ∧ Below W.heap.size W w')) :
    Calls Tryz.prog 11 #[.slice p nl cap, .agg #[.string so, .int .i64 sy, .int .i64 sc, .int .i64 sl, .string D], .string q, .string dk, .int .i64 now] w fun r w' => r = .returned (.int .i64 8) ∧ Below w.heap.size w w' := by
  obtain ⟨W0, hW0⟩ : ∃ W0, w.alloc (.cells #[.string so, .int .i64 sy, .int .i64 sc, .int .i64 sl, .string D] 27) = W0 := ⟨_, rfl⟩
  have V0 := hide' (Vs.start w #[.string so, .int .i64 sy, .int .i64 sc, .int .i64 sl, .string D] p L hat)
  rw [hW0] at V0
  have HC : Hid (∀ V : World, Vs w V #[.string so, .int .i64 sy, .int .i64 sc, .int .i64 sl, .string D] p L → V.cell? ⟨w.heap.size, 0, none⟩ = some (.string so) ∧ V.cell? ⟨w.heap.size, 1, none⟩ = some (.int .i64 sy) ∧ V.cell? ⟨w.heap.size, 2, none⟩ = some (.int .i64 sc) ∧ V.cell? ⟨w.heap.size, 3, none⟩ = some (.int .i64 sl) ∧ V.cell? ⟨w.heap.size, 4, none⟩ = some (.string D)) := fun V h => ⟨h.1.cell rfl, h.1.cell rfl, h.1.cell rfl, h.1.cell rfl, h.1.cell rfl⟩
  clear hat
  go_enter Tryz.func11, Tryz.ntmps11
  go_wp2_with (first
    | (go_at_call 22; refine (HS.out _ V0.out.2.2).mono ?_; rintro r w1 ⟨rfl, hB⟩; have V1 := hide' (V0.out.step hB); clear hB; obtain ⟨s0, s1, s2, s3, s4⟩ := HC.out _ V1.out))
  go_ret
  exact ⟨rfl, V1.out.2.1⟩
set_option maxRecDepth 100000 in
set_option maxHeartbeats 4000000 in
theorem verify_form2 (L : List Rn) (p : Option Addr) (cap nl : Nat) (so D q dk : ByteArray) (sy sc sl now : Int) (w : World) (hat : RsAt w p L)
    (HS : Hid (∀ W : World, RsAt W p L → Calls Tryz.prog 22 #[.slice p nl cap] W fun r w' => r = .returned (.bool true) ∧ Below W.heap.size W w')) (hsy : ¬ sy = 46) :
    Calls Tryz.prog 11 #[.slice p nl cap, .agg #[.string so, .int .i64 sy, .int .i64 sc, .int .i64 sl, .string D], .string q, .string dk, .int .i64 now] w fun r w' => r = .returned (.int .i64 8) ∧ Below w.heap.size w w' := by
  obtain ⟨W0, hW0⟩ : ∃ W0, w.alloc (.cells #[.string so, .int .i64 sy, .int .i64 sc, .int .i64 sl, .string D] 27) = W0 := ⟨_, rfl⟩
  have V0 := hide' (Vs.start w #[.string so, .int .i64 sy, .int .i64 sc, .int .i64 sl, .string D] p L hat)
  rw [hW0] at V0
  have HC : Hid (∀ V : World, Vs w V #[.string so, .int .i64 sy, .int .i64 sc, .int .i64 sl, .string D] p L → V.cell? ⟨w.heap.size, 0, none⟩ = some (.string so) ∧ V.cell? ⟨w.heap.size, 1, none⟩ = some (.int .i64 sy) ∧ V.cell? ⟨w.heap.size, 2, none⟩ = some (.int .i64 sc) ∧ V.cell? ⟨w.heap.size, 3, none⟩ = some (.int .i64 sl) ∧ V.cell? ⟨w.heap.size, 4, none⟩ = some (.string D)) := fun V h => ⟨h.1.cell rfl, h.1.cell rfl, h.1.cell rfl, h.1.cell rfl, h.1.cell rfl⟩
  clear hat
  go_enter Tryz.func11, Tryz.ntmps11
  go_wp2_with (first
    | (go_at_call 22; refine (HS.out _ V0.out.2.2).mono ?_; rintro r w1 ⟨rfl, hB⟩; have V1 := hide' (V0.out.step hB); clear hB; obtain ⟨s0, s1, s2, s3, s4⟩ := HC.out _ V1.out))
  go_ret
  exact ⟨rfl, V1.out.2.1⟩
set_option maxRecDepth 100000 in
set_option maxHeartbeats 4000000 in
theorem verify_form3 (L : List Rn) (p : Option Addr) (cap nl : Nat) (so D q dk : ByteArray) (sy sc sl now : Int) (w : World) (hat : RsAt w p L)
    (HS : Hid (∀ W : World, RsAt W p L → Calls Tryz.prog 22 #[.slice p nl cap] W fun r w' => r = .returned (.bool true) ∧ Below W.heap.size W w'))
    (HR : Hid (∀ W : World, Calls Tryz.prog 46 #[.agg #[.string so, .int .i64 46, .int .i64 sc, .int .i64 sl, .string D]] W fun r w' => r = .returned (.bool false) ∧ Below W.heap.size W w')) :
    Calls Tryz.prog 11 #[.slice p nl cap, .agg #[.string so, .int .i64 46, .int .i64 sc, .int .i64 sl, .string D], .string q, .string dk, .int .i64 now] w fun r w' => r = .returned (.int .i64 8) ∧ Below w.heap.size w w' := by
  obtain ⟨W0, hW0⟩ : ∃ W0, w.alloc (.cells #[.string so, .int .i64 46, .int .i64 sc, .int .i64 sl, .string D] 27) = W0 := ⟨_, rfl⟩
  have V0 := hide' (Vs.start w #[.string so, .int .i64 46, .int .i64 sc, .int .i64 sl, .string D] p L hat)
  rw [hW0] at V0
  have HC : Hid (∀ V : World, Vs w V #[.string so, .int .i64 46, .int .i64 sc, .int .i64 sl, .string D] p L → V.cell? ⟨w.heap.size, 0, none⟩ = some (.string so) ∧ V.cell? ⟨w.heap.size, 1, none⟩ = some (.int .i64 46) ∧ V.cell? ⟨w.heap.size, 2, none⟩ = some (.int .i64 sc) ∧ V.cell? ⟨w.heap.size, 3, none⟩ = some (.int .i64 sl) ∧ V.cell? ⟨w.heap.size, 4, none⟩ = some (.string D)) := fun V h => ⟨h.1.cell rfl, h.1.cell rfl, h.1.cell rfl, h.1.cell rfl, h.1.cell rfl⟩
  clear hat
  go_enter Tryz.func11, Tryz.ntmps11
  go_wp2_with (first
    | (go_at_call 22; refine (HS.out _ V0.out.2.2).mono ?_; rintro r w1 ⟨rfl, hB⟩; have V1 := hide' (V0.out.step hB); clear hB; obtain ⟨s0, s1, s2, s3, s4⟩ := HC.out _ V1.out)
    | (go_at_call 46; refine (HR.out _).mono ?_; rintro r w2 ⟨rfl, hB⟩; have V2 := hide' (V1.out.step hB); clear hB s0 s1 s2 s3 s4))
  go_ret
  exact ⟨rfl, V2.out.2.1⟩
end Go.Proofs.YtennkhdhnbdbeaaGreat

/-
  gazetteerref4.VerifySet: what is asked first. (The verifier's own text.)
-/
namespace Go.Proofs.YtennkhdhnbdbeaaGreat
set_option linter.unusedVariables false
set_option linter.unusedSimpArgs false
open Go.RowKit Go.Shelf Go.Sort Go.Proofs.YtennkhdhnbdbeaaGreat.Nm

/-- a row of texts in memory -/
def Pt (V : World) (gp op : Nat) (ps : List ByteArray) : Prop := gp < V.heap.size ∧ ∀ i, (h : i < ps.length) → V.cell? ⟨gp, op + i, none⟩ = some (.string ps[i])
theorem Pt.below {V V' : World} {gp op : Nat} {ps : List ByteArray} (h : Pt V gp op ps) (hB : Below V.heap.size V V') : Pt V' gp op ps := ⟨Nat.lt_of_lt_of_le h.1 hB.size, fun i hi => by rw [hB.cell (p := ⟨gp, op + i, none⟩) h.1]; exact h.2 i hi⟩
/-- what lies in memory along VerifySet -/
def Rw (w wc : World) (sg : Array Value) (p : Option Addr) (L : List Rn) (gp op : Nat) (ps : List ByteArray) : Prop := Vs w wc sg p L ∧ Pt wc gp op ps
theorem Rw.step {w wc wd : World} {sg : Array Value} {p : Option Addr} {L : List Rn} {gp op : Nat} {ps : List ByteArray} (h : Rw w wc sg p L gp op ps) (hB : Below wc.heap.size wc wd) : Rw w wd sg p L gp op ps := ⟨h.1.step hB, h.2.below hB⟩
theorem Rw.drew {w wc : World} {sg : Array Value} {p : Option Addr} {L : List Rn} {gp op : Nat} {ps : List ByteArray} (h : Rw w wc sg p L gp op ps) : Rw w wc.drew sg p L gp op ps := ⟨h.1.drew, h.2⟩
def Rx (w wc : World) (X : Nat) (sg xc : Array Value) (p : Option Addr) (L : List Rn) (gp op : Nat) (ps : List ByteArray) : Prop := Rw w wc sg p L gp op ps ∧ Bx wc X xc 27
theorem Rx.step {w wc wd : World} {X : Nat} {sg xc : Array Value} {p : Option Addr} {L : List Rn} {gp op : Nat} {ps : List ByteArray} (h : Rx w wc X sg xc p L gp op ps) (hB : Below wc.heap.size wc wd) : Rx w wd X sg xc p L gp op ps := ⟨h.1.step hB, h.2.below hB h.2.lt⟩
theorem Rx.drew {w wc : World} {X : Nat} {sg xc : Array Value} {p : Option Addr} {L : List Rn} {gp op : Nat} {ps : List ByteArray} (h : Rx w wc X sg xc p L gp op ps) : Rx w wc.drew X sg xc p L gp op ps := ⟨h.1.drew, h.2⟩
theorem Rx.start {w wc : World} {sg : Array Value} {p : Option Addr} {L : List Rn} {gp op : Nat} {ps : List ByteArray} (h : Rw w wc sg p L gp op ps) (xc : Array Value) : Rx w (wc.alloc (.cells xc 27)) wc.heap.size sg xc p L gp op ps := ⟨h.step ((Below.refl _ _).alloc (Nat.le_refl _) _), World.alloc_heap_new wc _⟩
set_option maxRecDepth 100000 in
set_option maxHeartbeats 4000000 in
theorem verifyset_form1 (L : List Rn) (p : Option Addr) (cap nl : Nat) (so D q dk : ByteArray) (sy sc sl now : Int) (w : World) (hat : RsAt w p L)
    (HS : Hid (∀ W : World, RsAt W p L → Calls Tryz.prog 35 #[.slice p nl cap] W fun r w' => r = .returned (.bool false) ∧ Below W.heap.size W w')) :
    Calls Tryz.prog 12 #[.slice p nl cap, .agg #[.string so, .int .i64 sy, .int .i64 sc, .int .i64 sl, .string D], .string q, .string dk, .int .i64 now] w fun r w' => r = .returned (.int .i64 8) ∧ Below w.heap.size w w' := by
  obtain ⟨W0, hW0⟩ : ∃ W0, w.alloc (.cells #[.string so, .int .i64 sy, .int .i64 sc, .int .i64 sl, .string D] 27) = W0 := ⟨_, rfl⟩
  have V0 := hide' (Vs.start w #[.string so, .int .i64 sy, .int .i64 sc, .int .i64 sl, .string D] p L hat)
  rw [hW0] at V0
  have HC : Hid (∀ V : World, Vs w V #[.string so, .int .i64 sy, .int .i64 sc, .int .i64 sl, .string D] p L → V.cell? ⟨w.heap.size, 0, none⟩ = some (.string so) ∧ V.cell? ⟨w.heap.size, 1, none⟩ = some (.int .i64 sy) ∧ V.cell? ⟨w.heap.size, 2, none⟩ = some (.int .i64 sc) ∧ V.cell? ⟨w.heap.size, 3, none⟩ = some (.int .i64 sl) ∧ V.cell? ⟨w.heap.size, 4, none⟩ = some (.string D)) := fun V h => ⟨h.1.cell rfl, h.1.cell rfl, h.1.cell rfl, h.1.cell rfl, h.1.cell rfl⟩
  clear hat
  go_enter Tryz.func12, Tryz.ntmps12
  go_wp2_with (first
    | (go_at_call 35; refine (HS.out _ V0.out.2.2).mono ?_; rintro r w1 ⟨rfl, hB⟩; have V1 := hide' (V0.out.step hB); clear hB; obtain ⟨s0, s1, s2, s3, s4⟩ := HC.out _ V1.out))
  go_ret
  exact ⟨rfl, V1.out.2.1⟩
set_option maxRecDepth 100000 in
set_option maxHeartbeats 4000000 in
theorem verifyset_form2 (L : List Rn) (p : Option Addr) (cap nl : Nat) (so D q dk : ByteArray) (sy sc sl now : Int) (w : World) (hat : RsAt w p L)
    (HS : Hid (∀ W : World, RsAt W p L → Calls Tryz.prog 35 #[.slice p nl cap] W fun r w' => r = .returned (.bool true) ∧ Below W.heap.size W w')) (hsy : ¬ sy = 46) :
    Calls Tryz.prog 12 #[.slice p nl cap, .agg #[.string so, .int .i64 sy, .int .i64 sc, .int .i64 sl, .string D], .string q, .string dk, .int .i64 now] w fun r w' => r = .returned (.int .i64 8) ∧ Below w.heap.size w w' := by
  obtain ⟨W0, hW0⟩ : ∃ W0, w.alloc (.cells #[.string so, .int .i64 sy, .int .i64 sc, .int .i64 sl, .string D] 27) = W0 := ⟨_, rfl⟩
  have V0 := hide' (Vs.start w #[.string so, .int .i64 sy, .int .i64 sc, .int .i64 sl, .string D] p L hat)
  rw [hW0] at V0
  have HC : Hid (∀ V : World, Vs w V #[.string so, .int .i64 sy, .int .i64 sc, .int .i64 sl, .string D] p L → V.cell? ⟨w.heap.size, 0, none⟩ = some (.string so) ∧ V.cell? ⟨w.heap.size, 1, none⟩ = some (.int .i64 sy) ∧ V.cell? ⟨w.heap.size, 2, none⟩ = some (.int .i64 sc) ∧ V.cell? ⟨w.heap.size, 3, none⟩ = some (.int .i64 sl) ∧ V.cell? ⟨w.heap.size, 4, none⟩ = some (.string D)) := fun V h => ⟨h.1.cell rfl, h.1.cell rfl, h.1.cell rfl, h.1.cell rfl, h.1.cell rfl⟩
  clear hat
  go_enter Tryz.func12, Tryz.ntmps12
  go_wp2_with (first
    | (go_at_call 35; refine (HS.out _ V0.out.2.2).mono ?_; rintro r w1 ⟨rfl, hB⟩; have V1 := hide' (V0.out.step hB); clear hB; obtain ⟨s0, s1, s2, s3, s4⟩ := HC.out _ V1.out))
  go_ret
  exact ⟨rfl, V1.out.2.1⟩
set_option maxRecDepth 100000 in
set_option maxHeartbeats 4000000 in
theorem verifyset_form3 (L : List Rn) (p : Option Addr) (cap nl : Nat) (so D q dk : ByteArray) (sy sc sl now : Int) (w : World) (hat : RsAt w p L)
    (HS : Hid (∀ W : World, RsAt W p L → Calls Tryz.prog 35 #[.slice p nl cap] W fun r w' => r = .returned (.bool true) ∧ Below W.heap.size W w'))
    (HZ : Hid (∀ W : World, Calls Tryz.prog 51 #[.agg #[.string so, .int .i64 46, .int .i64 sc, .int .i64 sl, .string D]] W fun r w' => r = .returned (.bool false) ∧ Below W.heap.size W w')) :
    Calls Tryz.prog 12 #[.slice p nl cap, .agg #[.string so, .int .i64 46, .int .i64 sc, .int .i64 sl, .string D], .string q, .string dk, .int .i64 now] w fun r w' => r = .returned (.int .i64 8) ∧ Below w.heap.size w w' := by
  obtain ⟨W0, hW0⟩ : ∃ W0, w.alloc (.cells #[.string so, .int .i64 46, .int .i64 sc, .int .i64 sl, .string D] 27) = W0 := ⟨_, rfl⟩
  have V0 := hide' (Vs.start w #[.string so, .int .i64 46, .int .i64 sc, .int .i64 sl, .string D] p L hat)
  rw [hW0] at V0
  have HC : Hid (∀ V : World, Vs w V #[.string so, .int .i64 46, .int .i64 sc, .int .i64 sl, .string D] p L → V.cell? ⟨w.heap.size, 0, none⟩ = some (.string so) ∧ V.cell? ⟨w.heap.size, 1, none⟩ = some (.int .i64 46) ∧ V.cell? ⟨w.heap.size, 2, none⟩ = some (.int .i64 sc) ∧ V.cell? ⟨w.heap.size, 3, none⟩ = some (.int .i64 sl) ∧ V.cell? ⟨w.heap.size, 4, none⟩ = some (.string D)) := fun V h => ⟨h.1.cell rfl, h.1.cell rfl, h.1.cell rfl, h.1.cell rfl, h.1.cell rfl⟩
  clear hat
  go_enter Tryz.func12, Tryz.ntmps12
  go_wp2_with (first
    | (go_at_call 35; refine (HS.out _ V0.out.2.2).mono ?_; rintro r w1 ⟨rfl, hB⟩; have V1 := hide' (V0.out.step hB); clear hB; obtain ⟨s0, s1, s2, s3, s4⟩ := HC.out _ V1.out)
    | (go_at_call 51; refine (HZ.out _).mono ?_; rintro r w2 ⟨rfl, hB⟩; have V2 := hide' (V1.out.step hB); clear hB s0 s1 s2 s3 s4))
  go_ret
  exact ⟨rfl, V2.out.2.1⟩
end Go.Proofs.YtennkhdhnbdbeaaGreat

/-
  seal.Verify, in its other ends, behind the stamp. (The verifier's own text.)
-/
namespace Go.Proofs.YtennkhdhnbdbeaaGreat
set_option linter.unusedVariables false
set_option linter.unusedSimpArgs false
open Go.RowKit Go.Shelf Go.Sort Go.Proofs.YtennkhdhnbdbeaaGreat.Nm

set_option maxRecDepth 100000 in
set_option maxHeartbeats 8000000 in
theorem verify_type (L : List Rn) (p : Option Addr) (cap : Nat) (so D q dk o0 X F T : ByteArray) (sc sl now lo : Int) (c0 al t0 l g u f t tg : Nat) (k0 k1 k2 k3 : Int) (ok : Bool) (w : World) (hp : 0 < L.length) (nl : Nat) (hnl : 0 < nl) (hat : RsAt w p L) (ho0 : L[0].o = o0) (ht0 : L[0].t = (t0 : Int))
    (HS : Hid (∀ W : World, RsAt W p L → Calls Tryz.prog 22 #[.slice p nl cap] W fun r w' => r = .returned (.bool true) ∧ Below W.heap.size W w'))
    (HR : Hid (∀ W : World, Calls Tryz.prog 46 #[.agg #[.string so, .int .i64 46, .int .i64 sc, .int .i64 sl, .string D]] W fun r w' => r = .returned (.bool true) ∧ Below W.heap.size W w'))
    (HO : Hid (∀ W : World, Calls Tryz.prog 47 #[.string D] W fun r w' => r = .returned (.tuple #[.agg #[.int .i64 (c0 : Int), .int .i64 (al : Int), .int .i64 (l : Int), .int .i64 (g : Int), .int .i64 (u : Int), .int .i64 (f : Int), .int .i64 (t : Int), .string F], .string X]) ∧ Below W.heap.size W w'))
    (HK : Hid (∀ W : World, Calls Tryz.prog 48 #[.string dk] W fun r w' => r = .returned (.tuple #[.agg #[.int .i64 k0, .int .i64 k1, .int .i64 k2, .int .i64 k3], .bool ok]) ∧ Below W.heap.size W w')) (hcov : ¬ c0 = t0) :
    Calls Tryz.prog 11 #[.slice p nl cap, .agg #[.string so, .int .i64 46, .int .i64 sc, .int .i64 sl, .string D], .string q, .string dk, .int .i64 now] w fun r w' => r = .returned (.int .i64 6) ∧ Below w.heap.size w w' := by
  have hci : ¬ (c0 : Int) = (t0 : Int) := by omega
  obtain ⟨W0, hW0⟩ : ∃ W0, w.alloc (.cells #[.string so, .int .i64 46, .int .i64 sc, .int .i64 sl, .string D] 27) = W0 := ⟨_, rfl⟩
  have V0 := hide' (Vs.start w #[.string so, .int .i64 46, .int .i64 sc, .int .i64 sl, .string D] p L hat)
  rw [hW0] at V0
  have HFI : Hid (∀ V : World, RsAt V p L → ∃ g off, p = some ⟨g, off, none⟩ ∧ V.cell? ⟨g, off, none⟩ = some (.string o0) ∧ V.cell? ⟨g, off + 1, none⟩ = some (.int .i64 (t0 : Int))) := fun V hV => by
    obtain ⟨g, off, hp2, hg, e0, e1, -⟩ := hV 0 hp
    rw [Nat.zero_mul, Nat.add_zero, ho0] at e0
    rw [Nat.zero_mul, Nat.add_zero, ht0] at e1
    exact ⟨g, off, hp2, e0, e1⟩
  obtain ⟨b0, off, hpp, -, -⟩ := HFI.out _ hat
  subst hpp
  have HF2 : Hid (∀ V : World, RsAt V (some ⟨b0, off, none⟩) L → V.cell? ⟨b0, off, none⟩ = some (.string o0) ∧ V.cell? ⟨b0, off + 1, none⟩ = some (.int .i64 (t0 : Int))) := fun V hV => by
    obtain ⟨g', off', hg, e0, e1⟩ := HFI.out V hV
    injection hg with hg; injection hg with h1 h2; subst h1; subst h2
    exact ⟨e0, e1⟩
  have hpi : ¬ (nl : Int) = 0 := by omega
  have hpj : (0 : Int) < (nl : Int) := by omega
  have HC : Hid (∀ V : World, Vs w V #[.string so, .int .i64 46, .int .i64 sc, .int .i64 sl, .string D] (some ⟨b0, off, none⟩) L → V.cell? ⟨w.heap.size, 0, none⟩ = some (.string so) ∧ V.cell? ⟨w.heap.size, 1, none⟩ = some (.int .i64 46) ∧ V.cell? ⟨w.heap.size, 2, none⟩ = some (.int .i64 sc) ∧ V.cell? ⟨w.heap.size, 3, none⟩ = some (.int .i64 sl) ∧ V.cell? ⟨w.heap.size, 4, none⟩ = some (.string D)) := fun V h => ⟨h.1.cell rfl, h.1.cell rfl, h.1.cell rfl, h.1.cell rfl, h.1.cell rfl⟩
  clear HFI hat ho0 ht0 hp
  go_enter Tryz.func11, Tryz.ntmps11
  go_wp2_with (first
    | (go_at_call 22; refine (HS.out _ V0.out.2.2).mono ?_; rintro r w1 ⟨rfl, hB⟩; have V1 := hide' (V0.out.step hB); clear hB; obtain ⟨s0, s1, s2, s3, s4⟩ := HC.out _ V1.out)
    | (go_at_call 46; refine (HR.out _).mono ?_; rintro r w2 ⟨rfl, hB⟩; have V2 := hide' (V1.out.step hB); clear hB s0 s1 s2 s3 s4; obtain ⟨s0, s1, s2, s3, s4⟩ := HC.out _ V2.out)
    | (go_at_call 47; refine (HO.out _).mono ?_; rintro r w3 ⟨rfl, hB⟩; have V3 := hide' (V2.out.step hB); have V4 := hide' (Vt.start V3.out #[.int .i64 (c0 : Int), .int .i64 (al : Int), .int .i64 (l : Int), .int .i64 (g : Int), .int .i64 (u : Int), .int .i64 (f : Int), .int .i64 (t : Int), .string F]); clear hB s0 s1 s2 s3 s4)
    | (go_at_call 48; refine (HK.out _).mono ?_; rintro r w4 ⟨rfl, hB⟩; have V5 := hide' (V4.out.step hB); have V6 := hide' (Vu.start V5.out #[.int .i64 k0, .int .i64 k1, .int .i64 k2, .int .i64 k3]); obtain ⟨e0, e1⟩ := HF2.out _ V6.out.1.1.2.2; clear hB))
  clear V0 V1 V2 V3 V4 V5
  obtain ⟨W6, hW6⟩ : ∃ W6, w4.alloc (.cells #[.int .i64 k0, .int .i64 k1, .int .i64 k2, .int .i64 k3] 23) = W6 := ⟨_, rfl⟩
  obtain ⟨Q, hQ⟩ : ∃ Q, w3.heap.size = Q := ⟨_, rfl⟩
  obtain ⟨K, hK⟩ : ∃ K, w4.heap.size = K := ⟨_, rfl⟩
  rw [hW6] at V6 e0 e1
  rw [hQ, hK] at V6
  simp only [hW6, hQ, hK]
  clear hW6 hQ hK hW0
  have QF : Hid (∀ V : World, Vu w V Q K #[.string so, .int .i64 46, .int .i64 sc, .int .i64 sl, .string D] #[.int .i64 (c0 : Int), .int .i64 (al : Int), .int .i64 (l : Int), .int .i64 (g : Int), .int .i64 (u : Int), .int .i64 (f : Int), .int .i64 (t : Int), .string F] #[.int .i64 k0, .int .i64 k1, .int .i64 k2, .int .i64 k3] (some ⟨b0, off, none⟩) L → V.cell? ⟨w.heap.size, 0, none⟩ = some (.string so) ∧ V.cell? ⟨Q, 0, none⟩ = some (.int .i64 (c0 : Int)) ∧ V.cell? ⟨Q, 1, none⟩ = some (.int .i64 (al : Int)) ∧ V.cell? ⟨Q, 2, none⟩ = some (.int .i64 (l : Int)) ∧ V.cell? ⟨Q, 3, none⟩ = some (.int .i64 (g : Int)) ∧ V.cell? ⟨Q, 4, none⟩ = some (.int .i64 (u : Int)) ∧ V.cell? ⟨Q, 5, none⟩ = some (.int .i64 (f : Int)) ∧ V.cell? ⟨Q, 6, none⟩ = some (.int .i64 (t : Int)) ∧ V.cell? ⟨Q, 7, none⟩ = some (.string F) ∧ V.cell? ⟨b0, off, none⟩ = some (.string o0) ∧ V.cell? ⟨b0, off + 1, none⟩ = some (.int .i64 (t0 : Int)) ∧ V.cell? ⟨K, 0, none⟩ = some (.int .i64 k0) ∧ V.cell? ⟨K, 1, none⟩ = some (.int .i64 k1) ∧ V.cell? ⟨K, 2, none⟩ = some (.int .i64 k2) ∧ V.cell? ⟨K, 3, none⟩ = some (.int .i64 k3)) := fun V h => ⟨h.1.1.1.cell rfl, h.1.2.cell rfl, h.1.2.cell rfl, h.1.2.cell rfl, h.1.2.cell rfl, h.1.2.cell rfl, h.1.2.cell rfl, h.1.2.cell rfl, h.1.2.cell rfl, (HF2.out V h.1.1.2.2).1, (HF2.out V h.1.1.2.2).2, h.2.cell rfl, h.2.cell rfl, h.2.cell rfl, h.2.cell rfl⟩
  clear e0 e1
  obtain ⟨s0, q0, q1, q2, q3, q4, q5, q6, q7, e0, e1, y0, y1, y2, y3⟩ := QF.out _ V6.out
  go_region_held3 (fun V => V.cell? ⟨Q, 0, none⟩ = some (.int .i64 (c0 : Int)) ∧ V.cell? ⟨b0, off + 1, none⟩ = some (.int .i64 (t0 : Int))) (first | go_keep) (fail)
  all_goals (go_wp2_with fail)
  all_goals go_ret
  all_goals (exact ⟨rfl, by first | exact V6.out.1.1.2.1 | exact V6.out.1.1.2.1.drew⟩)
set_option maxRecDepth 100000 in
set_option maxHeartbeats 8000000 in
theorem verify_out1 (L : List Rn) (p : Option Addr) (cap : Nat) (so D q dk o0 X F T : ByteArray) (sc sl now lo : Int) (c0 al t0 l g u f t tg : Nat) (k0 k1 k2 k3 : Int) (ok : Bool) (w : World) (hp : 0 < L.length) (nl : Nat) (hnl : 0 < nl) (hat : RsAt w p L) (ho0 : L[0].o = o0) (ht0 : L[0].t = (t0 : Int))
    (HS : Hid (∀ W : World, RsAt W p L → Calls Tryz.prog 22 #[.slice p nl cap] W fun r w' => r = .returned (.bool true) ∧ Below W.heap.size W w'))
    (HR : Hid (∀ W : World, Calls Tryz.prog 46 #[.agg #[.string so, .int .i64 46, .int .i64 sc, .int .i64 sl, .string D]] W fun r w' => r = .returned (.bool true) ∧ Below W.heap.size W w'))
    (HO : Hid (∀ W : World, Calls Tryz.prog 47 #[.string D] W fun r w' => r = .returned (.tuple #[.agg #[.int .i64 (t0 : Int), .int .i64 (al : Int), .int .i64 (l : Int), .int .i64 (g : Int), .int .i64 (u : Int), .int .i64 (f : Int), .int .i64 (t : Int), .string F], .string X]) ∧ Below W.heap.size W w'))
    (HK : Hid (∀ W : World, Calls Tryz.prog 48 #[.string dk] W fun r w' => r = .returned (.tuple #[.agg #[.int .i64 k0, .int .i64 k1, .int .i64 k2, .int .i64 k3], .bool ok]) ∧ Below W.heap.size W w'))
    (HE : Hid (∀ W : World, Calls Tryz.prog 49 #[.string so, .string o0] W fun r w' => r = .returned (.bool false) ∧ Below W.heap.size W w')) :
    Calls Tryz.prog 11 #[.slice p nl cap, .agg #[.string so, .int .i64 46, .int .i64 sc, .int .i64 sl, .string D], .string q, .string dk, .int .i64 now] w fun r w' => r = .returned (.int .i64 5) ∧ Below w.heap.size w w' := by
  obtain ⟨W0, hW0⟩ : ∃ W0, w.alloc (.cells #[.string so, .int .i64 46, .int .i64 sc, .int .i64 sl, .string D] 27) = W0 := ⟨_, rfl⟩
  have V0 := hide' (Vs.start w #[.string so, .int .i64 46, .int .i64 sc, .int .i64 sl, .string D] p L hat)
  rw [hW0] at V0
  have HFI : Hid (∀ V : World, RsAt V p L → ∃ g off, p = some ⟨g, off, none⟩ ∧ V.cell? ⟨g, off, none⟩ = some (.string o0) ∧ V.cell? ⟨g, off + 1, none⟩ = some (.int .i64 (t0 : Int))) := fun V hV => by
    obtain ⟨g, off, hp2, hg, e0, e1, -⟩ := hV 0 hp
    rw [Nat.zero_mul, Nat.add_zero, ho0] at e0
    rw [Nat.zero_mul, Nat.add_zero, ht0] at e1
    exact ⟨g, off, hp2, e0, e1⟩
  obtain ⟨b0, off, hpp, -, -⟩ := HFI.out _ hat
  subst hpp
  have HF2 : Hid (∀ V : World, RsAt V (some ⟨b0, off, none⟩) L → V.cell? ⟨b0, off, none⟩ = some (.string o0) ∧ V.cell? ⟨b0, off + 1, none⟩ = some (.int .i64 (t0 : Int))) := fun V hV => by
    obtain ⟨g', off', hg, e0, e1⟩ := HFI.out V hV
    injection hg with hg; injection hg with h1 h2; subst h1; subst h2
    exact ⟨e0, e1⟩
  have hpi : ¬ (nl : Int) = 0 := by omega
  have hpj : (0 : Int) < (nl : Int) := by omega
  have HC : Hid (∀ V : World, Vs w V #[.string so, .int .i64 46, .int .i64 sc, .int .i64 sl, .string D] (some ⟨b0, off, none⟩) L → V.cell? ⟨w.heap.size, 0, none⟩ = some (.string so) ∧ V.cell? ⟨w.heap.size, 1, none⟩ = some (.int .i64 46) ∧ V.cell? ⟨w.heap.size, 2, none⟩ = some (.int .i64 sc) ∧ V.cell? ⟨w.heap.size, 3, none⟩ = some (.int .i64 sl) ∧ V.cell? ⟨w.heap.size, 4, none⟩ = some (.string D)) := fun V h => ⟨h.1.cell rfl, h.1.cell rfl, h.1.cell rfl, h.1.cell rfl, h.1.cell rfl⟩
  clear HFI hat ho0 ht0 hp
  go_enter Tryz.func11, Tryz.ntmps11
  go_wp2_with (first
    | (go_at_call 22; refine (HS.out _ V0.out.2.2).mono ?_; rintro r w1 ⟨rfl, hB⟩; have V1 := hide' (V0.out.step hB); clear hB; obtain ⟨s0, s1, s2, s3, s4⟩ := HC.out _ V1.out)
    | (go_at_call 46; refine (HR.out _).mono ?_; rintro r w2 ⟨rfl, hB⟩; have V2 := hide' (V1.out.step hB); clear hB s0 s1 s2 s3 s4; obtain ⟨s0, s1, s2, s3, s4⟩ := HC.out _ V2.out)
    | (go_at_call 47; refine (HO.out _).mono ?_; rintro r w3 ⟨rfl, hB⟩; have V3 := hide' (V2.out.step hB); have V4 := hide' (Vt.start V3.out #[.int .i64 (t0 : Int), .int .i64 (al : Int), .int .i64 (l : Int), .int .i64 (g : Int), .int .i64 (u : Int), .int .i64 (f : Int), .int .i64 (t : Int), .string F]); clear hB s0 s1 s2 s3 s4)
    | (go_at_call 48; refine (HK.out _).mono ?_; rintro r w4 ⟨rfl, hB⟩; have V5 := hide' (V4.out.step hB); have V6 := hide' (Vu.start V5.out #[.int .i64 k0, .int .i64 k1, .int .i64 k2, .int .i64 k3]); obtain ⟨e0, e1⟩ := HF2.out _ V6.out.1.1.2.2; clear hB))
  clear V0 V1 V2 V3 V4 V5
  obtain ⟨W6, hW6⟩ : ∃ W6, w4.alloc (.cells #[.int .i64 k0, .int .i64 k1, .int .i64 k2, .int .i64 k3] 23) = W6 := ⟨_, rfl⟩
  obtain ⟨Q, hQ⟩ : ∃ Q, w3.heap.size = Q := ⟨_, rfl⟩
  obtain ⟨K, hK⟩ : ∃ K, w4.heap.size = K := ⟨_, rfl⟩
  rw [hW6] at V6 e0 e1
  rw [hQ, hK] at V6
  simp only [hW6, hQ, hK]
  clear hW6 hQ hK hW0
  have QF : Hid (∀ V : World, Vu w V Q K #[.string so, .int .i64 46, .int .i64 sc, .int .i64 sl, .string D] #[.int .i64 (t0 : Int), .int .i64 (al : Int), .int .i64 (l : Int), .int .i64 (g : Int), .int .i64 (u : Int), .int .i64 (f : Int), .int .i64 (t : Int), .string F] #[.int .i64 k0, .int .i64 k1, .int .i64 k2, .int .i64 k3] (some ⟨b0, off, none⟩) L → V.cell? ⟨w.heap.size, 0, none⟩ = some (.string so) ∧ V.cell? ⟨Q, 0, none⟩ = some (.int .i64 (t0 : Int)) ∧ V.cell? ⟨Q, 1, none⟩ = some (.int .i64 (al : Int)) ∧ V.cell? ⟨Q, 2, none⟩ = some (.int .i64 (l : Int)) ∧ V.cell? ⟨Q, 3, none⟩ = some (.int .i64 (g : Int)) ∧ V.cell? ⟨Q, 4, none⟩ = some (.int .i64 (u : Int)) ∧ V.cell? ⟨Q, 5, none⟩ = some (.int .i64 (f : Int)) ∧ V.cell? ⟨Q, 6, none⟩ = some (.int .i64 (t : Int)) ∧ V.cell? ⟨Q, 7, none⟩ = some (.string F) ∧ V.cell? ⟨b0, off, none⟩ = some (.string o0) ∧ V.cell? ⟨b0, off + 1, none⟩ = some (.int .i64 (t0 : Int)) ∧ V.cell? ⟨K, 0, none⟩ = some (.int .i64 k0) ∧ V.cell? ⟨K, 1, none⟩ = some (.int .i64 k1) ∧ V.cell? ⟨K, 2, none⟩ = some (.int .i64 k2) ∧ V.cell? ⟨K, 3, none⟩ = some (.int .i64 k3)) := fun V h => ⟨h.1.1.1.cell rfl, h.1.2.cell rfl, h.1.2.cell rfl, h.1.2.cell rfl, h.1.2.cell rfl, h.1.2.cell rfl, h.1.2.cell rfl, h.1.2.cell rfl, h.1.2.cell rfl, (HF2.out V h.1.1.2.2).1, (HF2.out V h.1.1.2.2).2, h.2.cell rfl, h.2.cell rfl, h.2.cell rfl, h.2.cell rfl⟩
  clear e0 e1
  obtain ⟨s0, q0, q1, q2, q3, q4, q5, q6, q7, e0, e1, y0, y1, y2, y3⟩ := QF.out _ V6.out
  go_region_held3 (fun V => V.cell? ⟨Q, 0, none⟩ = some (.int .i64 (t0 : Int)) ∧ V.cell? ⟨b0, off + 1, none⟩ = some (.int .i64 (t0 : Int))) (first | go_keep) (fail)
  have T1 : Hid True := trivial
  go_wp2_with (first
    | (go_at_call 49; have _ := T1; clear T1; refine (HE.out _).mono ?_; rintro r w7 ⟨rfl, hB⟩; have V7 := hide' (show Vu w w7 Q K #[.string so, .int .i64 46, .int .i64 sc, .int .i64 sl, .string D] #[.int .i64 (t0 : Int), .int .i64 (al : Int), .int .i64 (l : Int), .int .i64 (g : Int), .int .i64 (u : Int), .int .i64 (f : Int), .int .i64 (t : Int), .string F] #[.int .i64 k0, .int .i64 k1, .int .i64 k2, .int .i64 k3] (some ⟨b0, off, none⟩) L by first | exact V6.out.step hB | exact V6.out.drew.step hB); clear hB; clear s0 q0 q1 q2 q3 q4 q5 q6 q7 e0 e1 y0 y1 y2 y3; obtain ⟨s0, q0, q1, q2, q3, q4, q5, q6, q7, e0, e1, y0, y1, y2, y3⟩ := QF.out _ V7.out))
  all_goals go_ret
  all_goals (exact ⟨rfl, by first | exact V7.out.1.1.2.1 | exact V7.out.1.1.2.1.drew⟩)
set_option maxRecDepth 100000 in
set_option maxHeartbeats 8000000 in
theorem verify_out2 (L : List Rn) (p : Option Addr) (cap : Nat) (so D q dk o0 X F T : ByteArray) (sc sl now lo : Int) (c0 al t0 l g u f t tg : Nat) (k0 k1 k2 k3 : Int) (ok : Bool) (w : World) (hp : 0 < L.length) (nl : Nat) (hnl : 0 < nl) (hat : RsAt w p L) (ho0 : L[0].o = o0) (ht0 : L[0].t = (t0 : Int))
    (HS : Hid (∀ W : World, RsAt W p L → Calls Tryz.prog 22 #[.slice p nl cap] W fun r w' => r = .returned (.bool true) ∧ Below W.heap.size W w'))
    (HR : Hid (∀ W : World, Calls Tryz.prog 46 #[.agg #[.string so, .int .i64 46, .int .i64 sc, .int .i64 sl, .string D]] W fun r w' => r = .returned (.bool true) ∧ Below W.heap.size W w'))
    (HO : Hid (∀ W : World, Calls Tryz.prog 47 #[.string D] W fun r w' => r = .returned (.tuple #[.agg #[.int .i64 (t0 : Int), .int .i64 (al : Int), .int .i64 (l : Int), .int .i64 (g : Int), .int .i64 (u : Int), .int .i64 (f : Int), .int .i64 (t : Int), .string F], .string X]) ∧ Below W.heap.size W w'))
    (HK : Hid (∀ W : World, Calls Tryz.prog 48 #[.string dk] W fun r w' => r = .returned (.tuple #[.agg #[.int .i64 k0, .int .i64 k1, .int .i64 k2, .int .i64 k3], .bool ok]) ∧ Below W.heap.size W w'))
    (HE : Hid (∀ W : World, Calls Tryz.prog 49 #[.string so, .string o0] W fun r w' => r = .returned (.bool true) ∧ Below W.heap.size W w'))
    (HW : Hid (∀ W : World, Calls Tryz.prog 24 #[.string o0, .string F] W fun r w' => r = .returned (.bool false) ∧ Below W.heap.size W w')) :
    Calls Tryz.prog 11 #[.slice p nl cap, .agg #[.string so, .int .i64 46, .int .i64 sc, .int .i64 sl, .string D], .string q, .string dk, .int .i64 now] w fun r w' => r = .returned (.int .i64 5) ∧ Below w.heap.size w w' := by
  obtain ⟨W0, hW0⟩ : ∃ W0, w.alloc (.cells #[.string so, .int .i64 46, .int .i64 sc, .int .i64 sl, .string D] 27) = W0 := ⟨_, rfl⟩
  have V0 := hide' (Vs.start w #[.string so, .int .i64 46, .int .i64 sc, .int .i64 sl, .string D] p L hat)
  rw [hW0] at V0
  have HFI : Hid (∀ V : World, RsAt V p L → ∃ g off, p = some ⟨g, off, none⟩ ∧ V.cell? ⟨g, off, none⟩ = some (.string o0) ∧ V.cell? ⟨g, off + 1, none⟩ = some (.int .i64 (t0 : Int))) := fun V hV => by
    obtain ⟨g, off, hp2, hg, e0, e1, -⟩ := hV 0 hp
    rw [Nat.zero_mul, Nat.add_zero, ho0] at e0
    rw [Nat.zero_mul, Nat.add_zero, ht0] at e1
    exact ⟨g, off, hp2, e0, e1⟩
  obtain ⟨b0, off, hpp, -, -⟩ := HFI.out _ hat
  subst hpp
  have HF2 : Hid (∀ V : World, RsAt V (some ⟨b0, off, none⟩) L → V.cell? ⟨b0, off, none⟩ = some (.string o0) ∧ V.cell? ⟨b0, off + 1, none⟩ = some (.int .i64 (t0 : Int))) := fun V hV => by
    obtain ⟨g', off', hg, e0, e1⟩ := HFI.out V hV
    injection hg with hg; injection hg with h1 h2; subst h1; subst h2
    exact ⟨e0, e1⟩
  have hpi : ¬ (nl : Int) = 0 := by omega
  have hpj : (0 : Int) < (nl : Int) := by omega
  have HC : Hid (∀ V : World, Vs w V #[.string so, .int .i64 46, .int .i64 sc, .int .i64 sl, .string D] (some ⟨b0, off, none⟩) L → V.cell? ⟨w.heap.size, 0, none⟩ = some (.string so) ∧ V.cell? ⟨w.heap.size, 1, none⟩ = some (.int .i64 46) ∧ V.cell? ⟨w.heap.size, 2, none⟩ = some (.int .i64 sc) ∧ V.cell? ⟨w.heap.size, 3, none⟩ = some (.int .i64 sl) ∧ V.cell? ⟨w.heap.size, 4, none⟩ = some (.string D)) := fun V h => ⟨h.1.cell rfl, h.1.cell rfl, h.1.cell rfl, h.1.cell rfl, h.1.cell rfl⟩
  clear HFI hat ho0 ht0 hp
  go_enter Tryz.func11, Tryz.ntmps11
  go_wp2_with (first
    | (go_at_call 22; refine (HS.out _ V0.out.2.2).mono ?_; rintro r w1 ⟨rfl, hB⟩; have V1 := hide' (V0.out.step hB); clear hB; obtain ⟨s0, s1, s2, s3, s4⟩ := HC.out _ V1.out)
    | (go_at_call 46; refine (HR.out _).mono ?_; rintro r w2 ⟨rfl, hB⟩; have V2 := hide' (V1.out.step hB); clear hB s0 s1 s2 s3 s4; obtain ⟨s0, s1, s2, s3, s4⟩ := HC.out _ V2.out)
    | (go_at_call 47; refine (HO.out _).mono ?_; rintro r w3 ⟨rfl, hB⟩; have V3 := hide' (V2.out.step hB); have V4 := hide' (Vt.start V3.out #[.int .i64 (t0 : Int), .int .i64 (al : Int), .int .i64 (l : Int), .int .i64 (g : Int), .int .i64 (u : Int), .int .i64 (f : Int), .int .i64 (t : Int), .string F]); clear hB s0 s1 s2 s3 s4)
    | (go_at_call 48; refine (HK.out _).mono ?_; rintro r w4 ⟨rfl, hB⟩; have V5 := hide' (V4.out.step hB); have V6 := hide' (Vu.start V5.out #[.int .i64 k0, .int .i64 k1, .int .i64 k2, .int .i64 k3]); obtain ⟨e0, e1⟩ := HF2.out _ V6.out.1.1.2.2; clear hB))
  clear V0 V1 V2 V3 V4 V5
  obtain ⟨W6, hW6⟩ : ∃ W6, w4.alloc (.cells #[.int .i64 k0, .int .i64 k1, .int .i64 k2, .int .i64 k3] 23) = W6 := ⟨_, rfl⟩
  obtain ⟨Q, hQ⟩ : ∃ Q, w3.heap.size = Q := ⟨_, rfl⟩
  obtain ⟨K, hK⟩ : ∃ K, w4.heap.size = K := ⟨_, rfl⟩
  rw [hW6] at V6 e0 e1
  rw [hQ, hK] at V6
  simp only [hW6, hQ, hK]
  clear hW6 hQ hK hW0
  have QF : Hid (∀ V : World, Vu w V Q K #[.string so, .int .i64 46, .int .i64 sc, .int .i64 sl, .string D] #[.int .i64 (t0 : Int), .int .i64 (al : Int), .int .i64 (l : Int), .int .i64 (g : Int), .int .i64 (u : Int), .int .i64 (f : Int), .int .i64 (t : Int), .string F] #[.int .i64 k0, .int .i64 k1, .int .i64 k2, .int .i64 k3] (some ⟨b0, off, none⟩) L → V.cell? ⟨w.heap.size, 0, none⟩ = some (.string so) ∧ V.cell? ⟨Q, 0, none⟩ = some (.int .i64 (t0 : Int)) ∧ V.cell? ⟨Q, 1, none⟩ = some (.int .i64 (al : Int)) ∧ V.cell? ⟨Q, 2, none⟩ = some (.int .i64 (l : Int)) ∧ V.cell? ⟨Q, 3, none⟩ = some (.int .i64 (g : Int)) ∧ V.cell? ⟨Q, 4, none⟩ = some (.int .i64 (u : Int)) ∧ V.cell? ⟨Q, 5, none⟩ = some (.int .i64 (f : Int)) ∧ V.cell? ⟨Q, 6, none⟩ = some (.int .i64 (t : Int)) ∧ V.cell? ⟨Q, 7, none⟩ = some (.string F) ∧ V.cell? ⟨b0, off, none⟩ = some (.string o0) ∧ V.cell? ⟨b0, off + 1, none⟩ = some (.int .i64 (t0 : Int)) ∧ V.cell? ⟨K, 0, none⟩ = some (.int .i64 k0) ∧ V.cell? ⟨K, 1, none⟩ = some (.int .i64 k1) ∧ V.cell? ⟨K, 2, none⟩ = some (.int .i64 k2) ∧ V.cell? ⟨K, 3, none⟩ = some (.int .i64 k3)) := fun V h => ⟨h.1.1.1.cell rfl, h.1.2.cell rfl, h.1.2.cell rfl, h.1.2.cell rfl, h.1.2.cell rfl, h.1.2.cell rfl, h.1.2.cell rfl, h.1.2.cell rfl, h.1.2.cell rfl, (HF2.out V h.1.1.2.2).1, (HF2.out V h.1.1.2.2).2, h.2.cell rfl, h.2.cell rfl, h.2.cell rfl, h.2.cell rfl⟩
  clear e0 e1
  obtain ⟨s0, q0, q1, q2, q3, q4, q5, q6, q7, e0, e1, y0, y1, y2, y3⟩ := QF.out _ V6.out
  go_region_held3 (fun V => V.cell? ⟨Q, 0, none⟩ = some (.int .i64 (t0 : Int)) ∧ V.cell? ⟨b0, off + 1, none⟩ = some (.int .i64 (t0 : Int))) (first | go_keep) (fail)
  have T1 : Hid True := trivial
  go_wp2_with (first
    | (go_at_call 49; have _ := T1; clear T1; refine (HE.out _).mono ?_; rintro r w7 ⟨rfl, hB⟩; have V7 := hide' (show Vu w w7 Q K #[.string so, .int .i64 46, .int .i64 sc, .int .i64 sl, .string D] #[.int .i64 (t0 : Int), .int .i64 (al : Int), .int .i64 (l : Int), .int .i64 (g : Int), .int .i64 (u : Int), .int .i64 (f : Int), .int .i64 (t : Int), .string F] #[.int .i64 k0, .int .i64 k1, .int .i64 k2, .int .i64 k3] (some ⟨b0, off, none⟩) L by first | exact V6.out.step hB | exact V6.out.drew.step hB); clear hB; clear s0 q0 q1 q2 q3 q4 q5 q6 q7 e0 e1 y0 y1 y2 y3; obtain ⟨s0, q0, q1, q2, q3, q4, q5, q6, q7, e0, e1, y0, y1, y2, y3⟩ := QF.out _ V7.out)
    | (go_at_call 24; refine (HW.out _).mono ?_; rintro r w8 ⟨rfl, hB⟩; have V8 := hide' (show Vu w w8 Q K #[.string so, .int .i64 46, .int .i64 sc, .int .i64 sl, .string D] #[.int .i64 (t0 : Int), .int .i64 (al : Int), .int .i64 (l : Int), .int .i64 (g : Int), .int .i64 (u : Int), .int .i64 (f : Int), .int .i64 (t : Int), .string F] #[.int .i64 k0, .int .i64 k1, .int .i64 k2, .int .i64 k3] (some ⟨b0, off, none⟩) L by first | exact V7.out.step hB | exact V7.out.drew.step hB); clear hB; clear s0 q0 q1 q2 q3 q4 q5 q6 q7 e0 e1 y0 y1 y2 y3; obtain ⟨s0, q0, q1, q2, q3, q4, q5, q6, q7, e0, e1, y0, y1, y2, y3⟩ := QF.out _ V8.out))
  all_goals go_ret
  all_goals (exact ⟨rfl, by first | exact V8.out.1.1.2.1 | exact V8.out.1.1.2.1.drew⟩)
set_option maxRecDepth 100000 in
set_option maxHeartbeats 8000000 in
theorem verify_name (L : List Rn) (p : Option Addr) (cap : Nat) (so D q dk o0 X F T : ByteArray) (sc sl now lo : Int) (c0 al t0 l g u f t tg : Nat) (k0 k1 k2 k3 : Int) (ok : Bool) (w : World) (hp : 0 < L.length) (nl : Nat) (hnl : 0 < nl) (hat : RsAt w p L) (ho0 : L[0].o = o0) (ht0 : L[0].t = (t0 : Int))
    (HS : Hid (∀ W : World, RsAt W p L → Calls Tryz.prog 22 #[.slice p nl cap] W fun r w' => r = .returned (.bool true) ∧ Below W.heap.size W w'))
    (HR : Hid (∀ W : World, Calls Tryz.prog 46 #[.agg #[.string so, .int .i64 46, .int .i64 sc, .int .i64 sl, .string D]] W fun r w' => r = .returned (.bool true) ∧ Below W.heap.size W w'))
    (HO : Hid (∀ W : World, Calls Tryz.prog 47 #[.string D] W fun r w' => r = .returned (.tuple #[.agg #[.int .i64 (t0 : Int), .int .i64 (al : Int), .int .i64 (l : Int), .int .i64 (g : Int), .int .i64 (u : Int), .int .i64 (f : Int), .int .i64 (t : Int), .string F], .string X]) ∧ Below W.heap.size W w'))
    (HK : Hid (∀ W : World, Calls Tryz.prog 48 #[.string dk] W fun r w' => r = .returned (.tuple #[.agg #[.int .i64 k0, .int .i64 k1, .int .i64 k2, .int .i64 k3], .bool ok]) ∧ Below W.heap.size W w'))
    (HE : Hid (∀ W : World, Calls Tryz.prog 49 #[.string so, .string o0] W fun r w' => r = .returned (.bool true) ∧ Below W.heap.size W w'))
    (HW : Hid (∀ W : World, Calls Tryz.prog 24 #[.string o0, .string F] W fun r w' => r = .returned (.bool true) ∧ Below W.heap.size W w'))
    (HQ : Hid (∀ W : World, Calls Tryz.prog 49 #[.string q, .string F] W fun r w' => r = .returned (.bool false) ∧ Below W.heap.size W w')) :
    Calls Tryz.prog 11 #[.slice p nl cap, .agg #[.string so, .int .i64 46, .int .i64 sc, .int .i64 sl, .string D], .string q, .string dk, .int .i64 now] w fun r w' => r = .returned (.int .i64 1) ∧ Below w.heap.size w w' := by
  obtain ⟨W0, hW0⟩ : ∃ W0, w.alloc (.cells #[.string so, .int .i64 46, .int .i64 sc, .int .i64 sl, .string D] 27) = W0 := ⟨_, rfl⟩
  have V0 := hide' (Vs.start w #[.string so, .int .i64 46, .int .i64 sc, .int .i64 sl, .string D] p L hat)
  rw [hW0] at V0
  have HFI : Hid (∀ V : World, RsAt V p L → ∃ g off, p = some ⟨g, off, none⟩ ∧ V.cell? ⟨g, off, none⟩ = some (.string o0) ∧ V.cell? ⟨g, off + 1, none⟩ = some (.int .i64 (t0 : Int))) := fun V hV => by
    obtain ⟨g, off, hp2, hg, e0, e1, -⟩ := hV 0 hp
    rw [Nat.zero_mul, Nat.add_zero, ho0] at e0
    rw [Nat.zero_mul, Nat.add_zero, ht0] at e1
    exact ⟨g, off, hp2, e0, e1⟩
  obtain ⟨b0, off, hpp, -, -⟩ := HFI.out _ hat
  subst hpp
  have HF2 : Hid (∀ V : World, RsAt V (some ⟨b0, off, none⟩) L → V.cell? ⟨b0, off, none⟩ = some (.string o0) ∧ V.cell? ⟨b0, off + 1, none⟩ = some (.int .i64 (t0 : Int))) := fun V hV => by
    obtain ⟨g', off', hg, e0, e1⟩ := HFI.out V hV
    injection hg with hg; injection hg with h1 h2; subst h1; subst h2
    exact ⟨e0, e1⟩
  have hpi : ¬ (nl : Int) = 0 := by omega
  have hpj : (0 : Int) < (nl : Int) := by omega
  have HC : Hid (∀ V : World, Vs w V #[.string so, .int .i64 46, .int .i64 sc, .int .i64 sl, .string D] (some ⟨b0, off, none⟩) L → V.cell? ⟨w.heap.size, 0, none⟩ = some (.string so) ∧ V.cell? ⟨w.heap.size, 1, none⟩ = some (.int .i64 46) ∧ V.cell? ⟨w.heap.size, 2, none⟩ = some (.int .i64 sc) ∧ V.cell? ⟨w.heap.size, 3, none⟩ = some (.int .i64 sl) ∧ V.cell? ⟨w.heap.size, 4, none⟩ = some (.string D)) := fun V h => ⟨h.1.cell rfl, h.1.cell rfl, h.1.cell rfl, h.1.cell rfl, h.1.cell rfl⟩
  clear HFI hat ho0 ht0 hp
  go_enter Tryz.func11, Tryz.ntmps11
  go_wp2_with (first
    | (go_at_call 22; refine (HS.out _ V0.out.2.2).mono ?_; rintro r w1 ⟨rfl, hB⟩; have V1 := hide' (V0.out.step hB); clear hB; obtain ⟨s0, s1, s2, s3, s4⟩ := HC.out _ V1.out)
    | (go_at_call 46; refine (HR.out _).mono ?_; rintro r w2 ⟨rfl, hB⟩; have V2 := hide' (V1.out.step hB); clear hB s0 s1 s2 s3 s4; obtain ⟨s0, s1, s2, s3, s4⟩ := HC.out _ V2.out)
    | (go_at_call 47; refine (HO.out _).mono ?_; rintro r w3 ⟨rfl, hB⟩; have V3 := hide' (V2.out.step hB); have V4 := hide' (Vt.start V3.out #[.int .i64 (t0 : Int), .int .i64 (al : Int), .int .i64 (l : Int), .int .i64 (g : Int), .int .i64 (u : Int), .int .i64 (f : Int), .int .i64 (t : Int), .string F]); clear hB s0 s1 s2 s3 s4)
    | (go_at_call 48; refine (HK.out _).mono ?_; rintro r w4 ⟨rfl, hB⟩; have V5 := hide' (V4.out.step hB); have V6 := hide' (Vu.start V5.out #[.int .i64 k0, .int .i64 k1, .int .i64 k2, .int .i64 k3]); obtain ⟨e0, e1⟩ := HF2.out _ V6.out.1.1.2.2; clear hB))
  clear V0 V1 V2 V3 V4 V5
  obtain ⟨W6, hW6⟩ : ∃ W6, w4.alloc (.cells #[.int .i64 k0, .int .i64 k1, .int .i64 k2, .int .i64 k3] 23) = W6 := ⟨_, rfl⟩
  obtain ⟨Q, hQ⟩ : ∃ Q, w3.heap.size = Q := ⟨_, rfl⟩
  obtain ⟨K, hK⟩ : ∃ K, w4.heap.size = K := ⟨_, rfl⟩
  rw [hW6] at V6 e0 e1
  rw [hQ, hK] at V6
  simp only [hW6, hQ, hK]
  clear hW6 hQ hK hW0
  have QF : Hid (∀ V : World, Vu w V Q K #[.string so, .int .i64 46, .int .i64 sc, .int .i64 sl, .string D] #[.int .i64 (t0 : Int), .int .i64 (al : Int), .int .i64 (l : Int), .int .i64 (g : Int), .int .i64 (u : Int), .int .i64 (f : Int), .int .i64 (t : Int), .string F] #[.int .i64 k0, .int .i64 k1, .int .i64 k2, .int .i64 k3] (some ⟨b0, off, none⟩) L → V.cell? ⟨w.heap.size, 0, none⟩ = some (.string so) ∧ V.cell? ⟨Q, 0, none⟩ = some (.int .i64 (t0 : Int)) ∧ V.cell? ⟨Q, 1, none⟩ = some (.int .i64 (al : Int)) ∧ V.cell? ⟨Q, 2, none⟩ = some (.int .i64 (l : Int)) ∧ V.cell? ⟨Q, 3, none⟩ = some (.int .i64 (g : Int)) ∧ V.cell? ⟨Q, 4, none⟩ = some (.int .i64 (u : Int)) ∧ V.cell? ⟨Q, 5, none⟩ = some (.int .i64 (f : Int)) ∧ V.cell? ⟨Q, 6, none⟩ = some (.int .i64 (t : Int)) ∧ V.cell? ⟨Q, 7, none⟩ = some (.string F) ∧ V.cell? ⟨b0, off, none⟩ = some (.string o0) ∧ V.cell? ⟨b0, off + 1, none⟩ = some (.int .i64 (t0 : Int)) ∧ V.cell? ⟨K, 0, none⟩ = some (.int .i64 k0) ∧ V.cell? ⟨K, 1, none⟩ = some (.int .i64 k1) ∧ V.cell? ⟨K, 2, none⟩ = some (.int .i64 k2) ∧ V.cell? ⟨K, 3, none⟩ = some (.int .i64 k3)) := fun V h => ⟨h.1.1.1.cell rfl, h.1.2.cell rfl, h.1.2.cell rfl, h.1.2.cell rfl, h.1.2.cell rfl, h.1.2.cell rfl, h.1.2.cell rfl, h.1.2.cell rfl, h.1.2.cell rfl, (HF2.out V h.1.1.2.2).1, (HF2.out V h.1.1.2.2).2, h.2.cell rfl, h.2.cell rfl, h.2.cell rfl, h.2.cell rfl⟩
  clear e0 e1
  obtain ⟨s0, q0, q1, q2, q3, q4, q5, q6, q7, e0, e1, y0, y1, y2, y3⟩ := QF.out _ V6.out
  go_region_held3 (fun V => V.cell? ⟨Q, 0, none⟩ = some (.int .i64 (t0 : Int)) ∧ V.cell? ⟨b0, off + 1, none⟩ = some (.int .i64 (t0 : Int))) (first | go_keep) (fail)
  have T1 : Hid True := trivial
  go_wp2_with (first
    | (go_at_call 49; have _ := T1; clear T1; refine (HE.out _).mono ?_; rintro r w7 ⟨rfl, hB⟩; have V7 := hide' (show Vu w w7 Q K #[.string so, .int .i64 46, .int .i64 sc, .int .i64 sl, .string D] #[.int .i64 (t0 : Int), .int .i64 (al : Int), .int .i64 (l : Int), .int .i64 (g : Int), .int .i64 (u : Int), .int .i64 (f : Int), .int .i64 (t : Int), .string F] #[.int .i64 k0, .int .i64 k1, .int .i64 k2, .int .i64 k3] (some ⟨b0, off, none⟩) L by first | exact V6.out.step hB | exact V6.out.drew.step hB); clear hB; clear s0 q0 q1 q2 q3 q4 q5 q6 q7 e0 e1 y0 y1 y2 y3; obtain ⟨s0, q0, q1, q2, q3, q4, q5, q6, q7, e0, e1, y0, y1, y2, y3⟩ := QF.out _ V7.out)
    | (go_at_call 24; refine (HW.out _).mono ?_; rintro r w8 ⟨rfl, hB⟩; have V8 := hide' (show Vu w w8 Q K #[.string so, .int .i64 46, .int .i64 sc, .int .i64 sl, .string D] #[.int .i64 (t0 : Int), .int .i64 (al : Int), .int .i64 (l : Int), .int .i64 (g : Int), .int .i64 (u : Int), .int .i64 (f : Int), .int .i64 (t : Int), .string F] #[.int .i64 k0, .int .i64 k1, .int .i64 k2, .int .i64 k3] (some ⟨b0, off, none⟩) L by first | exact V7.out.step hB | exact V7.out.drew.step hB); clear hB; clear s0 q0 q1 q2 q3 q4 q5 q6 q7 e0 e1 y0 y1 y2 y3; obtain ⟨s0, q0, q1, q2, q3, q4, q5, q6, q7, e0, e1, y0, y1, y2, y3⟩ := QF.out _ V8.out)
    | (go_at_call 49; refine (HQ.out _).mono ?_; rintro r w9 ⟨rfl, hB⟩; have V9 := hide' (show Vu w w9 Q K #[.string so, .int .i64 46, .int .i64 sc, .int .i64 sl, .string D] #[.int .i64 (t0 : Int), .int .i64 (al : Int), .int .i64 (l : Int), .int .i64 (g : Int), .int .i64 (u : Int), .int .i64 (f : Int), .int .i64 (t : Int), .string F] #[.int .i64 k0, .int .i64 k1, .int .i64 k2, .int .i64 k3] (some ⟨b0, off, none⟩) L by first | exact V8.out.step hB | exact V8.out.drew.step hB); clear hB; clear s0 q0 q1 q2 q3 q4 q5 q6 q7 e0 e1 y0 y1 y2 y3; obtain ⟨s0, q0, q1, q2, q3, q4, q5, q6, q7, e0, e1, y0, y1, y2, y3⟩ := QF.out _ V9.out))
  all_goals go_ret
  all_goals (exact ⟨rfl, by first | exact V9.out.1.1.2.1 | exact V9.out.1.1.2.1.drew⟩)
end Go.Proofs.YtennkhdhnbdbeaaGreat

/-
  seal.Verify, in its other ends, behind the stamp. (The verifier's own text.)
-/
namespace Go.Proofs.YtennkhdhnbdbeaaGreat
set_option linter.unusedVariables false
set_option linter.unusedSimpArgs false
open Go.RowKit Go.Shelf Go.Sort Go.Proofs.YtennkhdhnbdbeaaGreat.Nm

set_option maxRecDepth 100000 in
set_option maxHeartbeats 8000000 in
theorem verify_key1 (L : List Rn) (p : Option Addr) (cap : Nat) (so D q dk o0 X F T : ByteArray) (sc sl now lo : Int) (c0 al t0 l g u f t tg : Nat) (k0 k1 k2 k3 : Int) (w : World) (hp : 0 < L.length) (nl : Nat) (hnl : 0 < nl) (hat : RsAt w p L) (ho0 : L[0].o = o0) (ht0 : L[0].t = (t0 : Int))
    (HS : Hid (∀ W : World, RsAt W p L → Calls Tryz.prog 22 #[.slice p nl cap] W fun r w' => r = .returned (.bool true) ∧ Below W.heap.size W w'))
    (HR : Hid (∀ W : World, Calls Tryz.prog 46 #[.agg #[.string so, .int .i64 46, .int .i64 sc, .int .i64 sl, .string D]] W fun r w' => r = .returned (.bool true) ∧ Below W.heap.size W w'))
    (HO : Hid (∀ W : World, Calls Tryz.prog 47 #[.string D] W fun r w' => r = .returned (.tuple #[.agg #[.int .i64 (t0 : Int), .int .i64 (al : Int), .int .i64 (l : Int), .int .i64 (g : Int), .int .i64 (u : Int), .int .i64 (f : Int), .int .i64 (t : Int), .string F], .string X]) ∧ Below W.heap.size W w'))
    (HK : Hid (∀ W : World, Calls Tryz.prog 48 #[.string dk] W fun r w' => r = .returned (.tuple #[.agg #[.int .i64 k0, .int .i64 k1, .int .i64 k2, .int .i64 k3], .bool false]) ∧ Below W.heap.size W w'))
    (HE : Hid (∀ W : World, Calls Tryz.prog 49 #[.string so, .string o0] W fun r w' => r = .returned (.bool true) ∧ Below W.heap.size W w'))
    (HW : Hid (∀ W : World, Calls Tryz.prog 24 #[.string o0, .string F] W fun r w' => r = .returned (.bool true) ∧ Below W.heap.size W w'))
    (HQ : Hid (∀ W : World, Calls Tryz.prog 49 #[.string q, .string F] W fun r w' => r = .returned (.bool true) ∧ Below W.heap.size W w')) :
    Calls Tryz.prog 11 #[.slice p nl cap, .agg #[.string so, .int .i64 46, .int .i64 sc, .int .i64 sl, .string D], .string q, .string dk, .int .i64 now] w fun r w' => r = .returned (.int .i64 24) ∧ Below w.heap.size w w' := by
  obtain ⟨W0, hW0⟩ : ∃ W0, w.alloc (.cells #[.string so, .int .i64 46, .int .i64 sc, .int .i64 sl, .string D] 27) = W0 := ⟨_, rfl⟩
  have V0 := hide' (Vs.start w #[.string so, .int .i64 46, .int .i64 sc, .int .i64 sl, .string D] p L hat)
  rw [hW0] at V0
  have HFI : Hid (∀ V : World, RsAt V p L → ∃ g off, p = some ⟨g, off, none⟩ ∧ V.cell? ⟨g, off, none⟩ = some (.string o0) ∧ V.cell? ⟨g, off + 1, none⟩ = some (.int .i64 (t0 : Int))) := fun V hV => by
    obtain ⟨g, off, hp2, hg, e0, e1, -⟩ := hV 0 hp
    rw [Nat.zero_mul, Nat.add_zero, ho0] at e0
    rw [Nat.zero_mul, Nat.add_zero, ht0] at e1
    exact ⟨g, off, hp2, e0, e1⟩
  obtain ⟨b0, off, hpp, -, -⟩ := HFI.out _ hat
  subst hpp
  have HF2 : Hid (∀ V : World, RsAt V (some ⟨b0, off, none⟩) L → V.cell? ⟨b0, off, none⟩ = some (.string o0) ∧ V.cell? ⟨b0, off + 1, none⟩ = some (.int .i64 (t0 : Int))) := fun V hV => by
    obtain ⟨g', off', hg, e0, e1⟩ := HFI.out V hV
    injection hg with hg; injection hg with h1 h2; subst h1; subst h2
    exact ⟨e0, e1⟩
  have hpi : ¬ (nl : Int) = 0 := by omega
  have hpj : (0 : Int) < (nl : Int) := by omega
  have HC : Hid (∀ V : World, Vs w V #[.string so, .int .i64 46, .int .i64 sc, .int .i64 sl, .string D] (some ⟨b0, off, none⟩) L → V.cell? ⟨w.heap.size, 0, none⟩ = some (.string so) ∧ V.cell? ⟨w.heap.size, 1, none⟩ = some (.int .i64 46) ∧ V.cell? ⟨w.heap.size, 2, none⟩ = some (.int .i64 sc) ∧ V.cell? ⟨w.heap.size, 3, none⟩ = some (.int .i64 sl) ∧ V.cell? ⟨w.heap.size, 4, none⟩ = some (.string D)) := fun V h => ⟨h.1.cell rfl, h.1.cell rfl, h.1.cell rfl, h.1.cell rfl, h.1.cell rfl⟩
  clear HFI hat ho0 ht0 hp
  go_enter Tryz.func11, Tryz.ntmps11
  go_wp2_with (first
    | (go_at_call 22; refine (HS.out _ V0.out.2.2).mono ?_; rintro r w1 ⟨rfl, hB⟩; have V1 := hide' (V0.out.step hB); clear hB; obtain ⟨s0, s1, s2, s3, s4⟩ := HC.out _ V1.out)
    | (go_at_call 46; refine (HR.out _).mono ?_; rintro r w2 ⟨rfl, hB⟩; have V2 := hide' (V1.out.step hB); clear hB s0 s1 s2 s3 s4; obtain ⟨s0, s1, s2, s3, s4⟩ := HC.out _ V2.out)
    | (go_at_call 47; refine (HO.out _).mono ?_; rintro r w3 ⟨rfl, hB⟩; have V3 := hide' (V2.out.step hB); have V4 := hide' (Vt.start V3.out #[.int .i64 (t0 : Int), .int .i64 (al : Int), .int .i64 (l : Int), .int .i64 (g : Int), .int .i64 (u : Int), .int .i64 (f : Int), .int .i64 (t : Int), .string F]); clear hB s0 s1 s2 s3 s4)
    | (go_at_call 48; refine (HK.out _).mono ?_; rintro r w4 ⟨rfl, hB⟩; have V5 := hide' (V4.out.step hB); have V6 := hide' (Vu.start V5.out #[.int .i64 k0, .int .i64 k1, .int .i64 k2, .int .i64 k3]); obtain ⟨e0, e1⟩ := HF2.out _ V6.out.1.1.2.2; clear hB))
  clear V0 V1 V2 V3 V4 V5
  obtain ⟨W6, hW6⟩ : ∃ W6, w4.alloc (.cells #[.int .i64 k0, .int .i64 k1, .int .i64 k2, .int .i64 k3] 23) = W6 := ⟨_, rfl⟩
  obtain ⟨Q, hQ⟩ : ∃ Q, w3.heap.size = Q := ⟨_, rfl⟩
  obtain ⟨K, hK⟩ : ∃ K, w4.heap.size = K := ⟨_, rfl⟩
  rw [hW6] at V6 e0 e1
  rw [hQ, hK] at V6
  simp only [hW6, hQ, hK]
  clear hW6 hQ hK hW0
  have QF : Hid (∀ V : World, Vu w V Q K #[.string so, .int .i64 46, .int .i64 sc, .int .i64 sl, .string D] #[.int .i64 (t0 : Int), .int .i64 (al : Int), .int .i64 (l : Int), .int .i64 (g : Int), .int .i64 (u : Int), .int .i64 (f : Int), .int .i64 (t : Int), .string F] #[.int .i64 k0, .int .i64 k1, .int .i64 k2, .int .i64 k3] (some ⟨b0, off, none⟩) L → V.cell? ⟨w.heap.size, 0, none⟩ = some (.string so) ∧ V.cell? ⟨Q, 0, none⟩ = some (.int .i64 (t0 : Int)) ∧ V.cell? ⟨Q, 1, none⟩ = some (.int .i64 (al : Int)) ∧ V.cell? ⟨Q, 2, none⟩ = some (.int .i64 (l : Int)) ∧ V.cell? ⟨Q, 3, none⟩ = some (.int .i64 (g : Int)) ∧ V.cell? ⟨Q, 4, none⟩ = some (.int .i64 (u : Int)) ∧ V.cell? ⟨Q, 5, none⟩ = some (.int .i64 (f : Int)) ∧ V.cell? ⟨Q, 6, none⟩ = some (.int .i64 (t : Int)) ∧ V.cell? ⟨Q, 7, none⟩ = some (.string F) ∧ V.cell? ⟨b0, off, none⟩ = some (.string o0) ∧ V.cell? ⟨b0, off + 1, none⟩ = some (.int .i64 (t0 : Int)) ∧ V.cell? ⟨K, 0, none⟩ = some (.int .i64 k0) ∧ V.cell? ⟨K, 1, none⟩ = some (.int .i64 k1) ∧ V.cell? ⟨K, 2, none⟩ = some (.int .i64 k2) ∧ V.cell? ⟨K, 3, none⟩ = some (.int .i64 k3)) := fun V h => ⟨h.1.1.1.cell rfl, h.1.2.cell rfl, h.1.2.cell rfl, h.1.2.cell rfl, h.1.2.cell rfl, h.1.2.cell rfl, h.1.2.cell rfl, h.1.2.cell rfl, h.1.2.cell rfl, (HF2.out V h.1.1.2.2).1, (HF2.out V h.1.1.2.2).2, h.2.cell rfl, h.2.cell rfl, h.2.cell rfl, h.2.cell rfl⟩
  clear e0 e1
  obtain ⟨s0, q0, q1, q2, q3, q4, q5, q6, q7, e0, e1, y0, y1, y2, y3⟩ := QF.out _ V6.out
  go_region_held3 (fun V => V.cell? ⟨Q, 0, none⟩ = some (.int .i64 (t0 : Int)) ∧ V.cell? ⟨b0, off + 1, none⟩ = some (.int .i64 (t0 : Int))) (first | go_keep) (fail)
  have T1 : Hid True := trivial
  go_wp2_with (first
    | (go_at_call 49; have _ := T1; clear T1; refine (HE.out _).mono ?_; rintro r w7 ⟨rfl, hB⟩; have V7 := hide' (show Vu w w7 Q K #[.string so, .int .i64 46, .int .i64 sc, .int .i64 sl, .string D] #[.int .i64 (t0 : Int), .int .i64 (al : Int), .int .i64 (l : Int), .int .i64 (g : Int), .int .i64 (u : Int), .int .i64 (f : Int), .int .i64 (t : Int), .string F] #[.int .i64 k0, .int .i64 k1, .int .i64 k2, .int .i64 k3] (some ⟨b0, off, none⟩) L by first | exact V6.out.step hB | exact V6.out.drew.step hB); clear hB; clear s0 q0 q1 q2 q3 q4 q5 q6 q7 e0 e1 y0 y1 y2 y3; obtain ⟨s0, q0, q1, q2, q3, q4, q5, q6, q7, e0, e1, y0, y1, y2, y3⟩ := QF.out _ V7.out)
    | (go_at_call 24; refine (HW.out _).mono ?_; rintro r w8 ⟨rfl, hB⟩; have V8 := hide' (show Vu w w8 Q K #[.string so, .int .i64 46, .int .i64 sc, .int .i64 sl, .string D] #[.int .i64 (t0 : Int), .int .i64 (al : Int), .int .i64 (l : Int), .int .i64 (g : Int), .int .i64 (u : Int), .int .i64 (f : Int), .int .i64 (t : Int), .string F] #[.int .i64 k0, .int .i64 k1, .int .i64 k2, .int .i64 k3] (some ⟨b0, off, none⟩) L by first | exact V7.out.step hB | exact V7.out.drew.step hB); clear hB; clear s0 q0 q1 q2 q3 q4 q5 q6 q7 e0 e1 y0 y1 y2 y3; obtain ⟨s0, q0, q1, q2, q3, q4, q5, q6, q7, e0, e1, y0, y1, y2, y3⟩ := QF.out _ V8.out)
    | (go_at_call 49; refine (HQ.out _).mono ?_; rintro r w9 ⟨rfl, hB⟩; have V9 := hide' (show Vu w w9 Q K #[.string so, .int .i64 46, .int .i64 sc, .int .i64 sl, .string D] #[.int .i64 (t0 : Int), .int .i64 (al : Int), .int .i64 (l : Int), .int .i64 (g : Int), .int .i64 (u : Int), .int .i64 (f : Int), .int .i64 (t : Int), .string F] #[.int .i64 k0, .int .i64 k1, .int .i64 k2, .int .i64 k3] (some ⟨b0, off, none⟩) L by first | exact V8.out.step hB | exact V8.out.drew.step hB); clear hB; clear s0 q0 q1 q2 q3 q4 q5 q6 q7 e0 e1 y0 y1 y2 y3; obtain ⟨s0, q0, q1, q2, q3, q4, q5, q6, q7, e0, e1, y0, y1, y2, y3⟩ := QF.out _ V9.out))
  refine wp_region_held_drew (S := fun V => V.cell? ⟨Q, 1, none⟩ = some (.int .i64 (al : Int)) ∧ V.cell? ⟨Q, 6, none⟩ = some (.int .i64 (t : Int))) (by kernel_rfl) ?_ (fun hHeld => ?_)
  · (try dsimp only); go_keep
  refine takeD 0 (some 72) (.bool false) rfl rfl (by kernel_rfl) (by kernel_rfl) (by kernel_rfl) (fun _ _ _ h => h) (Or.inl ⟨by rfl, ?_⟩) (by assumption) ?_
  · intro w hSw; (try dsimp only at hSw); go_simp <;> (intros; omega)
  simp only [Act.put, List.setIfInBounds_toArray, List.set_cons_zero, List.set_cons_succ]
  refine takeD 1 (some 73) (.bool true) rfl rfl (by kernel_rfl) (by kernel_rfl) (by kernel_rfl) (fun _ _ _ h => h) (Or.inl ⟨by rfl, ?_⟩) (by assumption) ?_
  · intro w hSw; (try dsimp only at hSw); go_simp <;> (intros; omega)
  simp only [Act.put, List.setIfInBounds_toArray, List.set_cons_zero, List.set_cons_succ]
  refine takeD 2 (some 74) (.bool true) rfl rfl (by kernel_rfl) (by kernel_rfl) (by kernel_rfl) (fun _ _ _ h => h) (Or.inl ⟨by rfl, ?_⟩) (by assumption) ?_
  · intro w hSw; (try dsimp only at hSw); go_simp <;> (intros; omega)
  simp only [Act.put, List.setIfInBounds_toArray, List.set_cons_zero, List.set_cons_succ]
  refine takeD 3 (some 75) undef rfl rfl (by kernel_rfl) (by kernel_rfl) (by kernel_rfl) (fun _ _ _ h => h) (Or.inr ⟨by rfl, rfl⟩) (by assumption) ?_
  simp only [Act.put, List.setIfInBounds_toArray, List.set_cons_zero, List.set_cons_succ]
  refine takeD 4 (some 76) undef rfl rfl (by kernel_rfl) (by kernel_rfl) (by kernel_rfl) (fun _ _ _ h => h) (Or.inr ⟨by rfl, rfl⟩) (by assumption) ?_
  simp only [Act.put, List.setIfInBounds_toArray, List.set_cons_zero, List.set_cons_succ]
  refine takeD 5 (some 77) undef rfl rfl (by kernel_rfl) (by kernel_rfl) (by kernel_rfl) (fun _ _ _ h => h) (Or.inr ⟨by rfl, rfl⟩) (by assumption) ?_
  simp only [Act.put, List.setIfInBounds_toArray, List.set_cons_zero, List.set_cons_succ]
  refine takeD 6 (some 78) (.bool true) rfl rfl (by kernel_rfl) (by kernel_rfl) (by kernel_rfl) (fun _ _ _ h => h) (Or.inl ⟨by rfl, ?_⟩) (by assumption) ?_
  · intro w hSw; (try dsimp only at hSw); go_simp <;> (intros; omega)
  simp only [Act.put, List.setIfInBounds_toArray, List.set_cons_zero, List.set_cons_succ]
  refine takeD 7 (some 79) (.bool true) rfl rfl (by kernel_rfl) (by kernel_rfl) (by kernel_rfl) (fun _ _ _ h => h) (Or.inl ⟨by rfl, ?_⟩) (by assumption) ?_
  · intro w hSw; (try dsimp only at hSw); go_simp <;> (intros; omega)
  simp only [Act.put, List.setIfInBounds_toArray, List.set_cons_zero, List.set_cons_succ]
  refine takeD 8 (some 80) undef rfl rfl (by kernel_rfl) (by kernel_rfl) (by kernel_rfl) (fun _ _ _ h => h) (Or.inr ⟨by rfl, rfl⟩) (by assumption) ?_
  simp only [Act.put, List.setIfInBounds_toArray, List.set_cons_zero, List.set_cons_succ]
  refine takeD 9 (some 81) undef rfl rfl (by kernel_rfl) (by kernel_rfl) (by kernel_rfl) (fun _ _ _ h => h) (Or.inr ⟨by rfl, rfl⟩) (by assumption) ?_
  simp only [Act.put, List.setIfInBounds_toArray, List.set_cons_zero, List.set_cons_succ]
  refine takeD 10 (some 82) undef rfl rfl (by kernel_rfl) (by kernel_rfl) (by kernel_rfl) (fun _ _ _ h => h) (Or.inr ⟨by rfl, rfl⟩) (by assumption) ?_
  simp only [Act.put, List.setIfInBounds_toArray, List.set_cons_zero, List.set_cons_succ]
  refine takeD 11 (some 83) undef rfl rfl (by kernel_rfl) (by kernel_rfl) (by kernel_rfl) (fun _ _ _ h => h) (Or.inr ⟨by rfl, rfl⟩) (by assumption) ?_
  simp only [Act.put, List.setIfInBounds_toArray, List.set_cons_zero, List.set_cons_succ]
  refine takeD 12 (some 84) undef rfl rfl (by kernel_rfl) (by kernel_rfl) (by kernel_rfl) (fun _ _ _ h => h) (Or.inr ⟨by rfl, rfl⟩) (by assumption) ?_
  simp only [Act.put, List.setIfInBounds_toArray, List.set_cons_zero, List.set_cons_succ]
  refine takeD 13 (some 85) (.bool true) rfl rfl (by kernel_rfl) (by kernel_rfl) (by kernel_rfl) (fun _ _ _ h => h) (Or.inl ⟨by rfl, ?_⟩) (by assumption) ?_
  · intro w hSw; (try dsimp only at hSw); go_simp <;> (intros; omega)
  simp only [Act.put, List.setIfInBounds_toArray, List.set_cons_zero, List.set_cons_succ]
  refine takeD 14 (some 71) (.bool true) rfl rfl (by kernel_rfl) (by kernel_rfl) (by kernel_rfl) (fun _ _ _ h => h) (Or.inl ⟨by rfl, ?_⟩) (by assumption) ?_
  · intro w hSw; (try dsimp only at hSw); go_simp <;> (intros; omega)
  simp only [Act.put, List.setIfInBounds_toArray, List.set_cons_zero, List.set_cons_succ]
  refine wpAnyH_done (by kernel_rfl) ?_ _
  all_goals (go_wp2_with fail)
  all_goals go_ret
  all_goals (exact ⟨rfl, by first | exact V9.out.1.1.2.1 | exact V9.out.1.1.2.1.drew⟩)
set_option maxRecDepth 100000 in
set_option maxHeartbeats 8000000 in
theorem verify_key2 (L : List Rn) (p : Option Addr) (cap : Nat) (so D q dk o0 X F T : ByteArray) (sc sl now lo : Int) (c0 al t0 l g u f t tg : Nat) (k0 k1 k2 k3 : Int) (w : World) (hp : 0 < L.length) (nl : Nat) (hnl : 0 < nl) (hat : RsAt w p L) (ho0 : L[0].o = o0) (ht0 : L[0].t = (t0 : Int))
    (HS : Hid (∀ W : World, RsAt W p L → Calls Tryz.prog 22 #[.slice p nl cap] W fun r w' => r = .returned (.bool true) ∧ Below W.heap.size W w'))
    (HR : Hid (∀ W : World, Calls Tryz.prog 46 #[.agg #[.string so, .int .i64 46, .int .i64 sc, .int .i64 sl, .string D]] W fun r w' => r = .returned (.bool true) ∧ Below W.heap.size W w'))
    (HO : Hid (∀ W : World, Calls Tryz.prog 47 #[.string D] W fun r w' => r = .returned (.tuple #[.agg #[.int .i64 (t0 : Int), .int .i64 (al : Int), .int .i64 (l : Int), .int .i64 (g : Int), .int .i64 (u : Int), .int .i64 (f : Int), .int .i64 (t : Int), .string F], .string X]) ∧ Below W.heap.size W w'))
    (HK : Hid (∀ W : World, Calls Tryz.prog 48 #[.string dk] W fun r w' => r = .returned (.tuple #[.agg #[.int .i64 k0, .int .i64 k1, .int .i64 k2, .int .i64 k3], .bool true]) ∧ Below W.heap.size W w'))
    (HE : Hid (∀ W : World, Calls Tryz.prog 49 #[.string so, .string o0] W fun r w' => r = .returned (.bool true) ∧ Below W.heap.size W w'))
    (HW : Hid (∀ W : World, Calls Tryz.prog 24 #[.string o0, .string F] W fun r w' => r = .returned (.bool true) ∧ Below W.heap.size W w'))
    (HQ : Hid (∀ W : World, Calls Tryz.prog 49 #[.string q, .string F] W fun r w' => r = .returned (.bool true) ∧ Below W.heap.size W w')) (hal : ¬ al = 253) :
    Calls Tryz.prog 11 #[.slice p nl cap, .agg #[.string so, .int .i64 46, .int .i64 sc, .int .i64 sl, .string D], .string q, .string dk, .int .i64 now] w fun r w' => r = .returned (.int .i64 24) ∧ Below w.heap.size w w' := by
  have hali : ¬ (al : Int) = 253 := by omega
  obtain ⟨W0, hW0⟩ : ∃ W0, w.alloc (.cells #[.string so, .int .i64 46, .int .i64 sc, .int .i64 sl, .string D] 27) = W0 := ⟨_, rfl⟩
  have V0 := hide' (Vs.start w #[.string so, .int .i64 46, .int .i64 sc, .int .i64 sl, .string D] p L hat)
  rw [hW0] at V0
  have HFI : Hid (∀ V : World, RsAt V p L → ∃ g off, p = some ⟨g, off, none⟩ ∧ V.cell? ⟨g, off, none⟩ = some (.string o0) ∧ V.cell? ⟨g, off + 1, none⟩ = some (.int .i64 (t0 : Int))) := fun V hV => by
    obtain ⟨g, off, hp2, hg, e0, e1, -⟩ := hV 0 hp
    rw [Nat.zero_mul, Nat.add_zero, ho0] at e0
    rw [Nat.zero_mul, Nat.add_zero, ht0] at e1
    exact ⟨g, off, hp2, e0, e1⟩
  obtain ⟨b0, off, hpp, -, -⟩ := HFI.out _ hat
  subst hpp
  have HF2 : Hid (∀ V : World, RsAt V (some ⟨b0, off, none⟩) L → V.cell? ⟨b0, off, none⟩ = some (.string o0) ∧ V.cell? ⟨b0, off + 1, none⟩ = some (.int .i64 (t0 : Int))) := fun V hV => by
    obtain ⟨g', off', hg, e0, e1⟩ := HFI.out V hV
    injection hg with hg; injection hg with h1 h2; subst h1; subst h2
    exact ⟨e0, e1⟩
  have hpi : ¬ (nl : Int) = 0 := by omega
  have hpj : (0 : Int) < (nl : Int) := by omega
  have HC : Hid (∀ V : World, Vs w V #[.string so, .int .i64 46, .int .i64 sc, .int .i64 sl, .string D] (some ⟨b0, off, none⟩) L → V.cell? ⟨w.heap.size, 0, none⟩ = some (.string so) ∧ V.cell? ⟨w.heap.size, 1, none⟩ = some (.int .i64 46) ∧ V.cell? ⟨w.heap.size, 2, none⟩ = some (.int .i64 sc) ∧ V.cell? ⟨w.heap.size, 3, none⟩ = some (.int .i64 sl) ∧ V.cell? ⟨w.heap.size, 4, none⟩ = some (.string D)) := fun V h => ⟨h.1.cell rfl, h.1.cell rfl, h.1.cell rfl, h.1.cell rfl, h.1.cell rfl⟩
  clear HFI hat ho0 ht0 hp
  go_enter Tryz.func11, Tryz.ntmps11
  go_wp2_with (first
    | (go_at_call 22; refine (HS.out _ V0.out.2.2).mono ?_; rintro r w1 ⟨rfl, hB⟩; have V1 := hide' (V0.out.step hB); clear hB; obtain ⟨s0, s1, s2, s3, s4⟩ := HC.out _ V1.out)
    | (go_at_call 46; refine (HR.out _).mono ?_; rintro r w2 ⟨rfl, hB⟩; have V2 := hide' (V1.out.step hB); clear hB s0 s1 s2 s3 s4; obtain ⟨s0, s1, s2, s3, s4⟩ := HC.out _ V2.out)
    | (go_at_call 47; refine (HO.out _).mono ?_; rintro r w3 ⟨rfl, hB⟩; have V3 := hide' (V2.out.step hB); have V4 := hide' (Vt.start V3.out #[.int .i64 (t0 : Int), .int .i64 (al : Int), .int .i64 (l : Int), .int .i64 (g : Int), .int .i64 (u : Int), .int .i64 (f : Int), .int .i64 (t : Int), .string F]); clear hB s0 s1 s2 s3 s4)
    | (go_at_call 48; refine (HK.out _).mono ?_; rintro r w4 ⟨rfl, hB⟩; have V5 := hide' (V4.out.step hB); have V6 := hide' (Vu.start V5.out #[.int .i64 k0, .int .i64 k1, .int .i64 k2, .int .i64 k3]); obtain ⟨e0, e1⟩ := HF2.out _ V6.out.1.1.2.2; clear hB))
  clear V0 V1 V2 V3 V4 V5
  obtain ⟨W6, hW6⟩ : ∃ W6, w4.alloc (.cells #[.int .i64 k0, .int .i64 k1, .int .i64 k2, .int .i64 k3] 23) = W6 := ⟨_, rfl⟩
  obtain ⟨Q, hQ⟩ : ∃ Q, w3.heap.size = Q := ⟨_, rfl⟩
  obtain ⟨K, hK⟩ : ∃ K, w4.heap.size = K := ⟨_, rfl⟩
  rw [hW6] at V6 e0 e1
  rw [hQ, hK] at V6
  simp only [hW6, hQ, hK]
  clear hW6 hQ hK hW0
  have QF : Hid (∀ V : World, Vu w V Q K #[.string so, .int .i64 46, .int .i64 sc, .int .i64 sl, .string D] #[.int .i64 (t0 : Int), .int .i64 (al : Int), .int .i64 (l : Int), .int .i64 (g : Int), .int .i64 (u : Int), .int .i64 (f : Int), .int .i64 (t : Int), .string F] #[.int .i64 k0, .int .i64 k1, .int .i64 k2, .int .i64 k3] (some ⟨b0, off, none⟩) L → V.cell? ⟨w.heap.size, 0, none⟩ = some (.string so) ∧ V.cell? ⟨Q, 0, none⟩ = some (.int .i64 (t0 : Int)) ∧ V.cell? ⟨Q, 1, none⟩ = some (.int .i64 (al : Int)) ∧ V.cell? ⟨Q, 2, none⟩ = some (.int .i64 (l : Int)) ∧ V.cell? ⟨Q, 3, none⟩ = some (.int .i64 (g : Int)) ∧ V.cell? ⟨Q, 4, none⟩ = some (.int .i64 (u : Int)) ∧ V.cell? ⟨Q, 5, none⟩ = some (.int .i64 (f : Int)) ∧ V.cell? ⟨Q, 6, none⟩ = some (.int .i64 (t : Int)) ∧ V.cell? ⟨Q, 7, none⟩ = some (.string F) ∧ V.cell? ⟨b0, off, none⟩ = some (.string o0) ∧ V.cell? ⟨b0, off + 1, none⟩ = some (.int .i64 (t0 : Int)) ∧ V.cell? ⟨K, 0, none⟩ = some (.int .i64 k0) ∧ V.cell? ⟨K, 1, none⟩ = some (.int .i64 k1) ∧ V.cell? ⟨K, 2, none⟩ = some (.int .i64 k2) ∧ V.cell? ⟨K, 3, none⟩ = some (.int .i64 k3)) := fun V h => ⟨h.1.1.1.cell rfl, h.1.2.cell rfl, h.1.2.cell rfl, h.1.2.cell rfl, h.1.2.cell rfl, h.1.2.cell rfl, h.1.2.cell rfl, h.1.2.cell rfl, h.1.2.cell rfl, (HF2.out V h.1.1.2.2).1, (HF2.out V h.1.1.2.2).2, h.2.cell rfl, h.2.cell rfl, h.2.cell rfl, h.2.cell rfl⟩
  clear e0 e1
  obtain ⟨s0, q0, q1, q2, q3, q4, q5, q6, q7, e0, e1, y0, y1, y2, y3⟩ := QF.out _ V6.out
  go_region_held3 (fun V => V.cell? ⟨Q, 0, none⟩ = some (.int .i64 (t0 : Int)) ∧ V.cell? ⟨b0, off + 1, none⟩ = some (.int .i64 (t0 : Int))) (first | go_keep) (fail)
  have T1 : Hid True := trivial
  go_wp2_with (first
    | (go_at_call 49; have _ := T1; clear T1; refine (HE.out _).mono ?_; rintro r w7 ⟨rfl, hB⟩; have V7 := hide' (show Vu w w7 Q K #[.string so, .int .i64 46, .int .i64 sc, .int .i64 sl, .string D] #[.int .i64 (t0 : Int), .int .i64 (al : Int), .int .i64 (l : Int), .int .i64 (g : Int), .int .i64 (u : Int), .int .i64 (f : Int), .int .i64 (t : Int), .string F] #[.int .i64 k0, .int .i64 k1, .int .i64 k2, .int .i64 k3] (some ⟨b0, off, none⟩) L by first | exact V6.out.step hB | exact V6.out.drew.step hB); clear hB; clear s0 q0 q1 q2 q3 q4 q5 q6 q7 e0 e1 y0 y1 y2 y3; obtain ⟨s0, q0, q1, q2, q3, q4, q5, q6, q7, e0, e1, y0, y1, y2, y3⟩ := QF.out _ V7.out)
    | (go_at_call 24; refine (HW.out _).mono ?_; rintro r w8 ⟨rfl, hB⟩; have V8 := hide' (show Vu w w8 Q K #[.string so, .int .i64 46, .int .i64 sc, .int .i64 sl, .string D] #[.int .i64 (t0 : Int), .int .i64 (al : Int), .int .i64 (l : Int), .int .i64 (g : Int), .int .i64 (u : Int), .int .i64 (f : Int), .int .i64 (t : Int), .string F] #[.int .i64 k0, .int .i64 k1, .int .i64 k2, .int .i64 k3] (some ⟨b0, off, none⟩) L by first | exact V7.out.step hB | exact V7.out.drew.step hB); clear hB; clear s0 q0 q1 q2 q3 q4 q5 q6 q7 e0 e1 y0 y1 y2 y3; obtain ⟨s0, q0, q1, q2, q3, q4, q5, q6, q7, e0, e1, y0, y1, y2, y3⟩ := QF.out _ V8.out)
    | (go_at_call 49; refine (HQ.out _).mono ?_; rintro r w9 ⟨rfl, hB⟩; have V9 := hide' (show Vu w w9 Q K #[.string so, .int .i64 46, .int .i64 sc, .int .i64 sl, .string D] #[.int .i64 (t0 : Int), .int .i64 (al : Int), .int .i64 (l : Int), .int .i64 (g : Int), .int .i64 (u : Int), .int .i64 (f : Int), .int .i64 (t : Int), .string F] #[.int .i64 k0, .int .i64 k1, .int .i64 k2, .int .i64 k3] (some ⟨b0, off, none⟩) L by first | exact V8.out.step hB | exact V8.out.drew.step hB); clear hB; clear s0 q0 q1 q2 q3 q4 q5 q6 q7 e0 e1 y0 y1 y2 y3; obtain ⟨s0, q0, q1, q2, q3, q4, q5, q6, q7, e0, e1, y0, y1, y2, y3⟩ := QF.out _ V9.out))
  refine wp_region_held_drew (S := fun V => V.cell? ⟨Q, 1, none⟩ = some (.int .i64 (al : Int)) ∧ V.cell? ⟨Q, 6, none⟩ = some (.int .i64 (t : Int))) (by kernel_rfl) ?_ (fun hHeld => ?_)
  · (try dsimp only); go_keep
  refine takeD 0 (some 72) (.bool true) rfl rfl (by kernel_rfl) (by kernel_rfl) (by kernel_rfl) (fun _ _ _ h => h) (Or.inl ⟨by rfl, ?_⟩) (by assumption) ?_
  · intro w hSw; (try dsimp only at hSw); go_simp <;> (intros; omega)
  simp only [Act.put, List.setIfInBounds_toArray, List.set_cons_zero, List.set_cons_succ]
  refine takeD 1 (some 73) (.bool false) rfl rfl (by kernel_rfl) (by kernel_rfl) (by kernel_rfl) (fun _ _ _ h => h) (Or.inl ⟨by rfl, ?_⟩) (by assumption) ?_
  · intro w hSw; (try dsimp only at hSw); go_simp <;> (intros; omega)
  simp only [Act.put, List.setIfInBounds_toArray, List.set_cons_zero, List.set_cons_succ]
  refine takeD 2 (some 74) (.bool false) rfl rfl (by kernel_rfl) (by kernel_rfl) (by kernel_rfl) (fun _ _ _ h => h) (Or.inl ⟨by rfl, ?_⟩) (by assumption) ?_
  · intro w hSw; (try dsimp only at hSw); go_simp <;> (intros; omega)
  simp only [Act.put, List.setIfInBounds_toArray, List.set_cons_zero, List.set_cons_succ]
  refine takeD 3 (some 75) (.pointer (some ⟨Q, 1, none⟩)) rfl rfl (by kernel_rfl) (by kernel_rfl) (by kernel_rfl) (fun _ _ _ h => h) (Or.inl ⟨by rfl, ?_⟩) (by assumption) ?_
  · intro w hSw; (try dsimp only at hSw); go_simp <;> (intros; omega)
  simp only [Act.put, List.setIfInBounds_toArray, List.set_cons_zero, List.set_cons_succ]
  refine takeD 4 (some 76) (.int .i64 (al : Int)) rfl rfl (by kernel_rfl) (by kernel_rfl) (by kernel_rfl) (fun _ _ _ h => h) (Or.inl ⟨by rfl, ?_⟩) (by assumption) ?_
  · intro w hSw; (try dsimp only at hSw); go_simp <;> (intros; omega)
  simp only [Act.put, List.setIfInBounds_toArray, List.set_cons_zero, List.set_cons_succ]
  refine takeD 5 (some 77) (.bool true) rfl rfl (by kernel_rfl) (by kernel_rfl) (by kernel_rfl) (fun _ _ _ h => h) (Or.inl ⟨by rfl, ?_⟩) (by assumption) ?_
  · intro w hSw; (try dsimp only at hSw); go_simp <;> (intros; omega)
  simp only [Act.put, List.setIfInBounds_toArray, List.set_cons_zero, List.set_cons_succ]
  refine takeD 6 (some 78) (.bool true) rfl rfl (by kernel_rfl) (by kernel_rfl) (by kernel_rfl) (fun _ _ _ h => h) (Or.inl ⟨by rfl, ?_⟩) (by assumption) ?_
  · intro w hSw; (try dsimp only at hSw); go_simp <;> (intros; omega)
  simp only [Act.put, List.setIfInBounds_toArray, List.set_cons_zero, List.set_cons_succ]
  refine takeD 7 (some 79) (.bool true) rfl rfl (by kernel_rfl) (by kernel_rfl) (by kernel_rfl) (fun _ _ _ h => h) (Or.inl ⟨by rfl, ?_⟩) (by assumption) ?_
  · intro w hSw; (try dsimp only at hSw); go_simp <;> (intros; omega)
  simp only [Act.put, List.setIfInBounds_toArray, List.set_cons_zero, List.set_cons_succ]
  refine takeD 8 (some 80) undef rfl rfl (by kernel_rfl) (by kernel_rfl) (by kernel_rfl) (fun _ _ _ h => h) (Or.inr ⟨by rfl, rfl⟩) (by assumption) ?_
  simp only [Act.put, List.setIfInBounds_toArray, List.set_cons_zero, List.set_cons_succ]
  refine takeD 9 (some 81) undef rfl rfl (by kernel_rfl) (by kernel_rfl) (by kernel_rfl) (fun _ _ _ h => h) (Or.inr ⟨by rfl, rfl⟩) (by assumption) ?_
  simp only [Act.put, List.setIfInBounds_toArray, List.set_cons_zero, List.set_cons_succ]
  refine takeD 10 (some 82) undef rfl rfl (by kernel_rfl) (by kernel_rfl) (by kernel_rfl) (fun _ _ _ h => h) (Or.inr ⟨by rfl, rfl⟩) (by assumption) ?_
  simp only [Act.put, List.setIfInBounds_toArray, List.set_cons_zero, List.set_cons_succ]
  refine takeD 11 (some 83) undef rfl rfl (by kernel_rfl) (by kernel_rfl) (by kernel_rfl) (fun _ _ _ h => h) (Or.inr ⟨by rfl, rfl⟩) (by assumption) ?_
  simp only [Act.put, List.setIfInBounds_toArray, List.set_cons_zero, List.set_cons_succ]
  refine takeD 12 (some 84) undef rfl rfl (by kernel_rfl) (by kernel_rfl) (by kernel_rfl) (fun _ _ _ h => h) (Or.inr ⟨by rfl, rfl⟩) (by assumption) ?_
  simp only [Act.put, List.setIfInBounds_toArray, List.set_cons_zero, List.set_cons_succ]
  refine takeD 13 (some 85) (.bool true) rfl rfl (by kernel_rfl) (by kernel_rfl) (by kernel_rfl) (fun _ _ _ h => h) (Or.inl ⟨by rfl, ?_⟩) (by assumption) ?_
  · intro w hSw; (try dsimp only at hSw); go_simp <;> (intros; omega)
  simp only [Act.put, List.setIfInBounds_toArray, List.set_cons_zero, List.set_cons_succ]
  refine takeD 14 (some 71) (.bool true) rfl rfl (by kernel_rfl) (by kernel_rfl) (by kernel_rfl) (fun _ _ _ h => h) (Or.inl ⟨by rfl, ?_⟩) (by assumption) ?_
  · intro w hSw; (try dsimp only at hSw); go_simp <;> (intros; omega)
  simp only [Act.put, List.setIfInBounds_toArray, List.set_cons_zero, List.set_cons_succ]
  refine wpAnyH_done (by kernel_rfl) ?_ _
  all_goals (go_wp2_with fail)
  all_goals go_ret
  all_goals (exact ⟨rfl, by first | exact V9.out.1.1.2.1 | exact V9.out.1.1.2.1.drew⟩)
set_option maxRecDepth 100000 in
set_option maxHeartbeats 8000000 in
theorem verify_key3 (L : List Rn) (p : Option Addr) (cap : Nat) (so D q dk o0 X F T : ByteArray) (sc sl now lo : Int) (c0 al t0 l g u f t tg : Nat) (k0 k1 k2 k3 : Int) (w : World) (hp : 0 < L.length) (nl : Nat) (hnl : 0 < nl) (hat : RsAt w p L) (ho0 : L[0].o = o0) (ht0 : L[0].t = (t0 : Int))
    (HS : Hid (∀ W : World, RsAt W p L → Calls Tryz.prog 22 #[.slice p nl cap] W fun r w' => r = .returned (.bool true) ∧ Below W.heap.size W w'))
    (HR : Hid (∀ W : World, Calls Tryz.prog 46 #[.agg #[.string so, .int .i64 46, .int .i64 sc, .int .i64 sl, .string D]] W fun r w' => r = .returned (.bool true) ∧ Below W.heap.size W w'))
    (HO : Hid (∀ W : World, Calls Tryz.prog 47 #[.string D] W fun r w' => r = .returned (.tuple #[.agg #[.int .i64 (t0 : Int), .int .i64 253, .int .i64 (l : Int), .int .i64 (g : Int), .int .i64 (u : Int), .int .i64 (f : Int), .int .i64 (t : Int), .string F], .string X]) ∧ Below W.heap.size W w'))
    (HK : Hid (∀ W : World, Calls Tryz.prog 48 #[.string dk] W fun r w' => r = .returned (.tuple #[.agg #[.int .i64 k0, .int .i64 k1, .int .i64 k2, .int .i64 k3], .bool true]) ∧ Below W.heap.size W w'))
    (HE : Hid (∀ W : World, Calls Tryz.prog 49 #[.string so, .string o0] W fun r w' => r = .returned (.bool true) ∧ Below W.heap.size W w'))
    (HW : Hid (∀ W : World, Calls Tryz.prog 24 #[.string o0, .string F] W fun r w' => r = .returned (.bool true) ∧ Below W.heap.size W w'))
    (HQ : Hid (∀ W : World, Calls Tryz.prog 49 #[.string q, .string F] W fun r w' => r = .returned (.bool true) ∧ Below W.heap.size W w'))
    (HT : Hid (∀ W : World, Calls Tryz.prog 26 #[.string dk] W fun r w' => r = .returned (.int .i64 (tg : Int)) ∧ w' = W)) (htg : ¬ t = tg) :
    Calls Tryz.prog 11 #[.slice p nl cap, .agg #[.string so, .int .i64 46, .int .i64 sc, .int .i64 sl, .string D], .string q, .string dk, .int .i64 now] w fun r w' => r = .returned (.int .i64 24) ∧ Below w.heap.size w w' := by
  have hti : ¬ (t : Int) = (tg : Int) := by omega
  obtain ⟨W0, hW0⟩ : ∃ W0, w.alloc (.cells #[.string so, .int .i64 46, .int .i64 sc, .int .i64 sl, .string D] 27) = W0 := ⟨_, rfl⟩
  have V0 := hide' (Vs.start w #[.string so, .int .i64 46, .int .i64 sc, .int .i64 sl, .string D] p L hat)
  rw [hW0] at V0
  have HFI : Hid (∀ V : World, RsAt V p L → ∃ g off, p = some ⟨g, off, none⟩ ∧ V.cell? ⟨g, off, none⟩ = some (.string o0) ∧ V.cell? ⟨g, off + 1, none⟩ = some (.int .i64 (t0 : Int))) := fun V hV => by
    obtain ⟨g, off, hp2, hg, e0, e1, -⟩ := hV 0 hp
    rw [Nat.zero_mul, Nat.add_zero, ho0] at e0
    rw [Nat.zero_mul, Nat.add_zero, ht0] at e1
    exact ⟨g, off, hp2, e0, e1⟩
  obtain ⟨b0, off, hpp, -, -⟩ := HFI.out _ hat
  subst hpp
  have HF2 : Hid (∀ V : World, RsAt V (some ⟨b0, off, none⟩) L → V.cell? ⟨b0, off, none⟩ = some (.string o0) ∧ V.cell? ⟨b0, off + 1, none⟩ = some (.int .i64 (t0 : Int))) := fun V hV => by
    obtain ⟨g', off', hg, e0, e1⟩ := HFI.out V hV
    injection hg with hg; injection hg with h1 h2; subst h1; subst h2
    exact ⟨e0, e1⟩
  have hpi : ¬ (nl : Int) = 0 := by omega
  have hpj : (0 : Int) < (nl : Int) := by omega
  have HC : Hid (∀ V : World, Vs w V #[.string so, .int .i64 46, .int .i64 sc, .int .i64 sl, .string D] (some ⟨b0, off, none⟩) L → V.cell? ⟨w.heap.size, 0, none⟩ = some (.string so) ∧ V.cell? ⟨w.heap.size, 1, none⟩ = some (.int .i64 46) ∧ V.cell? ⟨w.heap.size, 2, none⟩ = some (.int .i64 sc) ∧ V.cell? ⟨w.heap.size, 3, none⟩ = some (.int .i64 sl) ∧ V.cell? ⟨w.heap.size, 4, none⟩ = some (.string D)) := fun V h => ⟨h.1.cell rfl, h.1.cell rfl, h.1.cell rfl, h.1.cell rfl, h.1.cell rfl⟩
  clear HFI hat ho0 ht0 hp
  go_enter Tryz.func11, Tryz.ntmps11
  go_wp2_with (first
    | (go_at_call 22; refine (HS.out _ V0.out.2.2).mono ?_; rintro r w1 ⟨rfl, hB⟩; have V1 := hide' (V0.out.step hB); clear hB; obtain ⟨s0, s1, s2, s3, s4⟩ := HC.out _ V1.out)
    | (go_at_call 46; refine (HR.out _).mono ?_; rintro r w2 ⟨rfl, hB⟩; have V2 := hide' (V1.out.step hB); clear hB s0 s1 s2 s3 s4; obtain ⟨s0, s1, s2, s3, s4⟩ := HC.out _ V2.out)
    | (go_at_call 47; refine (HO.out _).mono ?_; rintro r w3 ⟨rfl, hB⟩; have V3 := hide' (V2.out.step hB); have V4 := hide' (Vt.start V3.out #[.int .i64 (t0 : Int), .int .i64 253, .int .i64 (l : Int), .int .i64 (g : Int), .int .i64 (u : Int), .int .i64 (f : Int), .int .i64 (t : Int), .string F]); clear hB s0 s1 s2 s3 s4)
    | (go_at_call 48; refine (HK.out _).mono ?_; rintro r w4 ⟨rfl, hB⟩; have V5 := hide' (V4.out.step hB); have V6 := hide' (Vu.start V5.out #[.int .i64 k0, .int .i64 k1, .int .i64 k2, .int .i64 k3]); obtain ⟨e0, e1⟩ := HF2.out _ V6.out.1.1.2.2; clear hB))
  clear V0 V1 V2 V3 V4 V5
  obtain ⟨W6, hW6⟩ : ∃ W6, w4.alloc (.cells #[.int .i64 k0, .int .i64 k1, .int .i64 k2, .int .i64 k3] 23) = W6 := ⟨_, rfl⟩
  obtain ⟨Q, hQ⟩ : ∃ Q, w3.heap.size = Q := ⟨_, rfl⟩
  obtain ⟨K, hK⟩ : ∃ K, w4.heap.size = K := ⟨_, rfl⟩
  rw [hW6] at V6 e0 e1
  rw [hQ, hK] at V6
  simp only [hW6, hQ, hK]
  clear hW6 hQ hK hW0
  have QF : Hid (∀ V : World, Vu w V Q K #[.string so, .int .i64 46, .int .i64 sc, .int .i64 sl, .string D] #[.int .i64 (t0 : Int), .int .i64 253, .int .i64 (l : Int), .int .i64 (g : Int), .int .i64 (u : Int), .int .i64 (f : Int), .int .i64 (t : Int), .string F] #[.int .i64 k0, .int .i64 k1, .int .i64 k2, .int .i64 k3] (some ⟨b0, off, none⟩) L → V.cell? ⟨w.heap.size, 0, none⟩ = some (.string so) ∧ V.cell? ⟨Q, 0, none⟩ = some (.int .i64 (t0 : Int)) ∧ V.cell? ⟨Q, 1, none⟩ = some (.int .i64 253) ∧ V.cell? ⟨Q, 2, none⟩ = some (.int .i64 (l : Int)) ∧ V.cell? ⟨Q, 3, none⟩ = some (.int .i64 (g : Int)) ∧ V.cell? ⟨Q, 4, none⟩ = some (.int .i64 (u : Int)) ∧ V.cell? ⟨Q, 5, none⟩ = some (.int .i64 (f : Int)) ∧ V.cell? ⟨Q, 6, none⟩ = some (.int .i64 (t : Int)) ∧ V.cell? ⟨Q, 7, none⟩ = some (.string F) ∧ V.cell? ⟨b0, off, none⟩ = some (.string o0) ∧ V.cell? ⟨b0, off + 1, none⟩ = some (.int .i64 (t0 : Int)) ∧ V.cell? ⟨K, 0, none⟩ = some (.int .i64 k0) ∧ V.cell? ⟨K, 1, none⟩ = some (.int .i64 k1) ∧ V.cell? ⟨K, 2, none⟩ = some (.int .i64 k2) ∧ V.cell? ⟨K, 3, none⟩ = some (.int .i64 k3)) := fun V h => ⟨h.1.1.1.cell rfl, h.1.2.cell rfl, h.1.2.cell rfl, h.1.2.cell rfl, h.1.2.cell rfl, h.1.2.cell rfl, h.1.2.cell rfl, h.1.2.cell rfl, h.1.2.cell rfl, (HF2.out V h.1.1.2.2).1, (HF2.out V h.1.1.2.2).2, h.2.cell rfl, h.2.cell rfl, h.2.cell rfl, h.2.cell rfl⟩
  clear e0 e1
  obtain ⟨s0, q0, q1, q2, q3, q4, q5, q6, q7, e0, e1, y0, y1, y2, y3⟩ := QF.out _ V6.out
  go_region_held3 (fun V => V.cell? ⟨Q, 0, none⟩ = some (.int .i64 (t0 : Int)) ∧ V.cell? ⟨b0, off + 1, none⟩ = some (.int .i64 (t0 : Int))) (first | go_keep) (fail)
  have T1 : Hid True := trivial
  go_wp2_with (first
    | (go_at_call 49; have _ := T1; clear T1; refine (HE.out _).mono ?_; rintro r w7 ⟨rfl, hB⟩; have V7 := hide' (show Vu w w7 Q K #[.string so, .int .i64 46, .int .i64 sc, .int .i64 sl, .string D] #[.int .i64 (t0 : Int), .int .i64 253, .int .i64 (l : Int), .int .i64 (g : Int), .int .i64 (u : Int), .int .i64 (f : Int), .int .i64 (t : Int), .string F] #[.int .i64 k0, .int .i64 k1, .int .i64 k2, .int .i64 k3] (some ⟨b0, off, none⟩) L by first | exact V6.out.step hB | exact V6.out.drew.step hB); clear hB; clear s0 q0 q1 q2 q3 q4 q5 q6 q7 e0 e1 y0 y1 y2 y3; obtain ⟨s0, q0, q1, q2, q3, q4, q5, q6, q7, e0, e1, y0, y1, y2, y3⟩ := QF.out _ V7.out)
    | (go_at_call 24; refine (HW.out _).mono ?_; rintro r w8 ⟨rfl, hB⟩; have V8 := hide' (show Vu w w8 Q K #[.string so, .int .i64 46, .int .i64 sc, .int .i64 sl, .string D] #[.int .i64 (t0 : Int), .int .i64 253, .int .i64 (l : Int), .int .i64 (g : Int), .int .i64 (u : Int), .int .i64 (f : Int), .int .i64 (t : Int), .string F] #[.int .i64 k0, .int .i64 k1, .int .i64 k2, .int .i64 k3] (some ⟨b0, off, none⟩) L by first | exact V7.out.step hB | exact V7.out.drew.step hB); clear hB; clear s0 q0 q1 q2 q3 q4 q5 q6 q7 e0 e1 y0 y1 y2 y3; obtain ⟨s0, q0, q1, q2, q3, q4, q5, q6, q7, e0, e1, y0, y1, y2, y3⟩ := QF.out _ V8.out)
    | (go_at_call 49; refine (HQ.out _).mono ?_; rintro r w9 ⟨rfl, hB⟩; have V9 := hide' (show Vu w w9 Q K #[.string so, .int .i64 46, .int .i64 sc, .int .i64 sl, .string D] #[.int .i64 (t0 : Int), .int .i64 253, .int .i64 (l : Int), .int .i64 (g : Int), .int .i64 (u : Int), .int .i64 (f : Int), .int .i64 (t : Int), .string F] #[.int .i64 k0, .int .i64 k1, .int .i64 k2, .int .i64 k3] (some ⟨b0, off, none⟩) L by first | exact V8.out.step hB | exact V8.out.drew.step hB); clear hB; clear s0 q0 q1 q2 q3 q4 q5 q6 q7 e0 e1 y0 y1 y2 y3; obtain ⟨s0, q0, q1, q2, q3, q4, q5, q6, q7, e0, e1, y0, y1, y2, y3⟩ := QF.out _ V9.out))
  go_region_held3 (fun V => V.cell? ⟨Q, 1, none⟩ = some (.int .i64 253) ∧ V.cell? ⟨Q, 6, none⟩ = some (.int .i64 (t : Int))) (first | go_keep | exact ⟨Va.out.1.2.cell rfl, Va.out.1.2.cell rfl⟩) ((go_at_call 26; refine (HT.out _).mono ?_; rintro r wa ⟨rfl, hwa⟩; have Va := hide' (show Vu w wa Q K #[.string so, .int .i64 46, .int .i64 sc, .int .i64 sl, .string D] #[.int .i64 (t0 : Int), .int .i64 253, .int .i64 (l : Int), .int .i64 (g : Int), .int .i64 (u : Int), .int .i64 (f : Int), .int .i64 (t : Int), .string F] #[.int .i64 k0, .int .i64 k1, .int .i64 k2, .int .i64 k3] (some ⟨b0, off, none⟩) L by first | (rw [hwa]; exact V9.out) | (rw [hwa]; exact V9.out.drew)); clear hwa))
  all_goals (clear s0 q0 q1 q2 q3 q4 q5 q6 q7 e0 e1 y0 y1 y2 y3)
  all_goals (obtain ⟨s0, q0, q1, q2, q3, q4, q5, q6, q7, e0, e1, y0, y1, y2, y3⟩ := QF.out _ Va.out)
  all_goals (go_wp2_with fail)
  all_goals go_ret
  all_goals (exact ⟨rfl, by first | exact Va.out.1.1.2.1 | exact Va.out.1.1.2.1.drew⟩)
end Go.Proofs.YtennkhdhnbdbeaaGreat

/-
  seal.Verify, in its other ends, behind the stamp. (The verifier's own text.)
-/
namespace Go.Proofs.YtennkhdhnbdbeaaGreat
set_option linter.unusedVariables false
set_option linter.unusedSimpArgs false
open Go.RowKit Go.Shelf Go.Sort Go.Proofs.YtennkhdhnbdbeaaGreat.Nm

set_option maxRecDepth 100000 in
set_option maxHeartbeats 8000000 in
theorem verify_label (L : List Rn) (p : Option Addr) (cap : Nat) (so D q dk o0 X F T : ByteArray) (sc sl now lo : Int) (c0 al t0 l g u f t tg : Nat) (k0 k1 k2 k3 : Int) (w : World) (hp : 0 < L.length) (nl : Nat) (hnl : 0 < nl) (hat : RsAt w p L) (ho0 : L[0].o = o0) (ht0 : L[0].t = (t0 : Int))
    (HS : Hid (∀ W : World, RsAt W p L → Calls Tryz.prog 22 #[.slice p nl cap] W fun r w' => r = .returned (.bool true) ∧ Below W.heap.size W w'))
    (HR : Hid (∀ W : World, Calls Tryz.prog 46 #[.agg #[.string so, .int .i64 46, .int .i64 sc, .int .i64 sl, .string D]] W fun r w' => r = .returned (.bool true) ∧ Below W.heap.size W w'))
    (HO : Hid (∀ W : World, Calls Tryz.prog 47 #[.string D] W fun r w' => r = .returned (.tuple #[.agg #[.int .i64 (t0 : Int), .int .i64 253, .int .i64 (l : Int), .int .i64 (g : Int), .int .i64 (u : Int), .int .i64 (f : Int), .int .i64 (t : Int), .string F], .string X]) ∧ Below W.heap.size W w'))
    (HK : Hid (∀ W : World, Calls Tryz.prog 48 #[.string dk] W fun r w' => r = .returned (.tuple #[.agg #[.int .i64 k0, .int .i64 k1, .int .i64 k2, .int .i64 k3], .bool true]) ∧ Below W.heap.size W w'))
    (HE : Hid (∀ W : World, Calls Tryz.prog 49 #[.string so, .string o0] W fun r w' => r = .returned (.bool true) ∧ Below W.heap.size W w'))
    (HW : Hid (∀ W : World, Calls Tryz.prog 24 #[.string o0, .string F] W fun r w' => r = .returned (.bool true) ∧ Below W.heap.size W w'))
    (HQ : Hid (∀ W : World, Calls Tryz.prog 49 #[.string q, .string F] W fun r w' => r = .returned (.bool true) ∧ Below W.heap.size W w'))
    (HT : Hid (∀ W : World, Calls Tryz.prog 26 #[.string dk] W fun r w' => r = .returned (.int .i64 (t : Int)) ∧ w' = W))
    (HL : Hid (∀ W : World, Calls Tryz.prog 25 #[.string o0] W fun r w' => r = .returned (.int .i64 lo) ∧ Below W.heap.size W w')) (hlo : lo < (l : Int)) :
    Calls Tryz.prog 11 #[.slice p nl cap, .agg #[.string so, .int .i64 46, .int .i64 sc, .int .i64 sl, .string D], .string q, .string dk, .int .i64 now] w fun r w' => r = .returned (.int .i64 3) ∧ Below w.heap.size w w' := by
  obtain ⟨W0, hW0⟩ : ∃ W0, w.alloc (.cells #[.string so, .int .i64 46, .int .i64 sc, .int .i64 sl, .string D] 27) = W0 := ⟨_, rfl⟩
  have V0 := hide' (Vs.start w #[.string so, .int .i64 46, .int .i64 sc, .int .i64 sl, .string D] p L hat)
  rw [hW0] at V0
  have HFI : Hid (∀ V : World, RsAt V p L → ∃ g off, p = some ⟨g, off, none⟩ ∧ V.cell? ⟨g, off, none⟩ = some (.string o0) ∧ V.cell? ⟨g, off + 1, none⟩ = some (.int .i64 (t0 : Int))) := fun V hV => by
    obtain ⟨g, off, hp2, hg, e0, e1, -⟩ := hV 0 hp
    rw [Nat.zero_mul, Nat.add_zero, ho0] at e0
    rw [Nat.zero_mul, Nat.add_zero, ht0] at e1
    exact ⟨g, off, hp2, e0, e1⟩
  obtain ⟨b0, off, hpp, -, -⟩ := HFI.out _ hat
  subst hpp
  have HF2 : Hid (∀ V : World, RsAt V (some ⟨b0, off, none⟩) L → V.cell? ⟨b0, off, none⟩ = some (.string o0) ∧ V.cell? ⟨b0, off + 1, none⟩ = some (.int .i64 (t0 : Int))) := fun V hV => by
    obtain ⟨g', off', hg, e0, e1⟩ := HFI.out V hV
    injection hg with hg; injection hg with h1 h2; subst h1; subst h2
    exact ⟨e0, e1⟩
  have hpi : ¬ (nl : Int) = 0 := by omega
  have hpj : (0 : Int) < (nl : Int) := by omega
  have HC : Hid (∀ V : World, Vs w V #[.string so, .int .i64 46, .int .i64 sc, .int .i64 sl, .string D] (some ⟨b0, off, none⟩) L → V.cell? ⟨w.heap.size, 0, none⟩ = some (.string so) ∧ V.cell? ⟨w.heap.size, 1, none⟩ = some (.int .i64 46) ∧ V.cell? ⟨w.heap.size, 2, none⟩ = some (.int .i64 sc) ∧ V.cell? ⟨w.heap.size, 3, none⟩ = some (.int .i64 sl) ∧ V.cell? ⟨w.heap.size, 4, none⟩ = some (.string D)) := fun V h => ⟨h.1.cell rfl, h.1.cell rfl, h.1.cell rfl, h.1.cell rfl, h.1.cell rfl⟩
  clear HFI hat ho0 ht0 hp
  go_enter Tryz.func11, Tryz.ntmps11
  go_wp2_with (first
    | (go_at_call 22; refine (HS.out _ V0.out.2.2).mono ?_; rintro r w1 ⟨rfl, hB⟩; have V1 := hide' (V0.out.step hB); clear hB; obtain ⟨s0, s1, s2, s3, s4⟩ := HC.out _ V1.out)
    | (go_at_call 46; refine (HR.out _).mono ?_; rintro r w2 ⟨rfl, hB⟩; have V2 := hide' (V1.out.step hB); clear hB s0 s1 s2 s3 s4; obtain ⟨s0, s1, s2, s3, s4⟩ := HC.out _ V2.out)
    | (go_at_call 47; refine (HO.out _).mono ?_; rintro r w3 ⟨rfl, hB⟩; have V3 := hide' (V2.out.step hB); have V4 := hide' (Vt.start V3.out #[.int .i64 (t0 : Int), .int .i64 253, .int .i64 (l : Int), .int .i64 (g : Int), .int .i64 (u : Int), .int .i64 (f : Int), .int .i64 (t : Int), .string F]); clear hB s0 s1 s2 s3 s4)
    | (go_at_call 48; refine (HK.out _).mono ?_; rintro r w4 ⟨rfl, hB⟩; have V5 := hide' (V4.out.step hB); have V6 := hide' (Vu.start V5.out #[.int .i64 k0, .int .i64 k1, .int .i64 k2, .int .i64 k3]); obtain ⟨e0, e1⟩ := HF2.out _ V6.out.1.1.2.2; clear hB))
  clear V0 V1 V2 V3 V4 V5
  obtain ⟨W6, hW6⟩ : ∃ W6, w4.alloc (.cells #[.int .i64 k0, .int .i64 k1, .int .i64 k2, .int .i64 k3] 23) = W6 := ⟨_, rfl⟩
  obtain ⟨Q, hQ⟩ : ∃ Q, w3.heap.size = Q := ⟨_, rfl⟩
  obtain ⟨K, hK⟩ : ∃ K, w4.heap.size = K := ⟨_, rfl⟩
  rw [hW6] at V6 e0 e1
  rw [hQ, hK] at V6
  simp only [hW6, hQ, hK]
  clear hW6 hQ hK hW0
  have QF : Hid (∀ V : World, Vu w V Q K #[.string so, .int .i64 46, .int .i64 sc, .int .i64 sl, .string D] #[.int .i64 (t0 : Int), .int .i64 253, .int .i64 (l : Int), .int .i64 (g : Int), .int .i64 (u : Int), .int .i64 (f : Int), .int .i64 (t : Int), .string F] #[.int .i64 k0, .int .i64 k1, .int .i64 k2, .int .i64 k3] (some ⟨b0, off, none⟩) L → V.cell? ⟨w.heap.size, 0, none⟩ = some (.string so) ∧ V.cell? ⟨Q, 0, none⟩ = some (.int .i64 (t0 : Int)) ∧ V.cell? ⟨Q, 1, none⟩ = some (.int .i64 253) ∧ V.cell? ⟨Q, 2, none⟩ = some (.int .i64 (l : Int)) ∧ V.cell? ⟨Q, 3, none⟩ = some (.int .i64 (g : Int)) ∧ V.cell? ⟨Q, 4, none⟩ = some (.int .i64 (u : Int)) ∧ V.cell? ⟨Q, 5, none⟩ = some (.int .i64 (f : Int)) ∧ V.cell? ⟨Q, 6, none⟩ = some (.int .i64 (t : Int)) ∧ V.cell? ⟨Q, 7, none⟩ = some (.string F) ∧ V.cell? ⟨b0, off, none⟩ = some (.string o0) ∧ V.cell? ⟨b0, off + 1, none⟩ = some (.int .i64 (t0 : Int)) ∧ V.cell? ⟨K, 0, none⟩ = some (.int .i64 k0) ∧ V.cell? ⟨K, 1, none⟩ = some (.int .i64 k1) ∧ V.cell? ⟨K, 2, none⟩ = some (.int .i64 k2) ∧ V.cell? ⟨K, 3, none⟩ = some (.int .i64 k3)) := fun V h => ⟨h.1.1.1.cell rfl, h.1.2.cell rfl, h.1.2.cell rfl, h.1.2.cell rfl, h.1.2.cell rfl, h.1.2.cell rfl, h.1.2.cell rfl, h.1.2.cell rfl, h.1.2.cell rfl, (HF2.out V h.1.1.2.2).1, (HF2.out V h.1.1.2.2).2, h.2.cell rfl, h.2.cell rfl, h.2.cell rfl, h.2.cell rfl⟩
  clear e0 e1
  obtain ⟨s0, q0, q1, q2, q3, q4, q5, q6, q7, e0, e1, y0, y1, y2, y3⟩ := QF.out _ V6.out
  go_region_held3 (fun V => V.cell? ⟨Q, 0, none⟩ = some (.int .i64 (t0 : Int)) ∧ V.cell? ⟨b0, off + 1, none⟩ = some (.int .i64 (t0 : Int))) (first | go_keep) (fail)
  have T1 : Hid True := trivial
  go_wp2_with (first
    | (go_at_call 49; have _ := T1; clear T1; refine (HE.out _).mono ?_; rintro r w7 ⟨rfl, hB⟩; have V7 := hide' (show Vu w w7 Q K #[.string so, .int .i64 46, .int .i64 sc, .int .i64 sl, .string D] #[.int .i64 (t0 : Int), .int .i64 253, .int .i64 (l : Int), .int .i64 (g : Int), .int .i64 (u : Int), .int .i64 (f : Int), .int .i64 (t : Int), .string F] #[.int .i64 k0, .int .i64 k1, .int .i64 k2, .int .i64 k3] (some ⟨b0, off, none⟩) L by first | exact V6.out.step hB | exact V6.out.drew.step hB); clear hB; clear s0 q0 q1 q2 q3 q4 q5 q6 q7 e0 e1 y0 y1 y2 y3; obtain ⟨s0, q0, q1, q2, q3, q4, q5, q6, q7, e0, e1, y0, y1, y2, y3⟩ := QF.out _ V7.out)
    | (go_at_call 24; refine (HW.out _).mono ?_; rintro r w8 ⟨rfl, hB⟩; have V8 := hide' (show Vu w w8 Q K #[.string so, .int .i64 46, .int .i64 sc, .int .i64 sl, .string D] #[.int .i64 (t0 : Int), .int .i64 253, .int .i64 (l : Int), .int .i64 (g : Int), .int .i64 (u : Int), .int .i64 (f : Int), .int .i64 (t : Int), .string F] #[.int .i64 k0, .int .i64 k1, .int .i64 k2, .int .i64 k3] (some ⟨b0, off, none⟩) L by first | exact V7.out.step hB | exact V7.out.drew.step hB); clear hB; clear s0 q0 q1 q2 q3 q4 q5 q6 q7 e0 e1 y0 y1 y2 y3; obtain ⟨s0, q0, q1, q2, q3, q4, q5, q6, q7, e0, e1, y0, y1, y2, y3⟩ := QF.out _ V8.out)
    | (go_at_call 49; refine (HQ.out _).mono ?_; rintro r w9 ⟨rfl, hB⟩; have V9 := hide' (show Vu w w9 Q K #[.string so, .int .i64 46, .int .i64 sc, .int .i64 sl, .string D] #[.int .i64 (t0 : Int), .int .i64 253, .int .i64 (l : Int), .int .i64 (g : Int), .int .i64 (u : Int), .int .i64 (f : Int), .int .i64 (t : Int), .string F] #[.int .i64 k0, .int .i64 k1, .int .i64 k2, .int .i64 k3] (some ⟨b0, off, none⟩) L by first | exact V8.out.step hB | exact V8.out.drew.step hB); clear hB; clear s0 q0 q1 q2 q3 q4 q5 q6 q7 e0 e1 y0 y1 y2 y3; obtain ⟨s0, q0, q1, q2, q3, q4, q5, q6, q7, e0, e1, y0, y1, y2, y3⟩ := QF.out _ V9.out))
  go_region_held3 (fun V => V.cell? ⟨Q, 1, none⟩ = some (.int .i64 253) ∧ V.cell? ⟨Q, 6, none⟩ = some (.int .i64 (t : Int))) (first | go_keep | exact ⟨Va.out.1.2.cell rfl, Va.out.1.2.cell rfl⟩) ((go_at_call 26; refine (HT.out _).mono ?_; rintro r wa ⟨rfl, hwa⟩; have Va := hide' (show Vu w wa Q K #[.string so, .int .i64 46, .int .i64 sc, .int .i64 sl, .string D] #[.int .i64 (t0 : Int), .int .i64 253, .int .i64 (l : Int), .int .i64 (g : Int), .int .i64 (u : Int), .int .i64 (f : Int), .int .i64 (t : Int), .string F] #[.int .i64 k0, .int .i64 k1, .int .i64 k2, .int .i64 k3] (some ⟨b0, off, none⟩) L by first | (rw [hwa]; exact V9.out) | (rw [hwa]; exact V9.out.drew)); clear hwa))
  all_goals (clear s0 q0 q1 q2 q3 q4 q5 q6 q7 e0 e1 y0 y1 y2 y3)
  all_goals (obtain ⟨s0, q0, q1, q2, q3, q4, q5, q6, q7, e0, e1, y0, y1, y2, y3⟩ := QF.out _ Va.out)
  all_goals (go_wp2_with fail)
  all_goals (go_region_held3 (fun V => V.cell? ⟨Q, 2, none⟩ = some (.int .i64 (l : Int))) (first | go_keep | exact Vb.out.1.2.cell rfl) ((go_at_call 25; refine (HL.out _).mono ?_; rintro r wb ⟨rfl, hB⟩; have Vb := hide' (show Vu w wb Q K #[.string so, .int .i64 46, .int .i64 sc, .int .i64 sl, .string D] #[.int .i64 (t0 : Int), .int .i64 253, .int .i64 (l : Int), .int .i64 (g : Int), .int .i64 (u : Int), .int .i64 (f : Int), .int .i64 (t : Int), .string F] #[.int .i64 k0, .int .i64 k1, .int .i64 k2, .int .i64 k3] (some ⟨b0, off, none⟩) L by first | exact Va.out.step hB | exact Va.out.drew.step hB); clear hB)))
  all_goals (clear s0 q0 q1 q2 q3 q4 q5 q6 q7 e0 e1 y0 y1 y2 y3)
  all_goals (obtain ⟨s0, q0, q1, q2, q3, q4, q5, q6, q7, e0, e1, y0, y1, y2, y3⟩ := QF.out _ Vb.out)
  all_goals (go_wp2_with fail)
  all_goals go_ret
  all_goals (exact ⟨rfl, by first | exact Vb.out.1.1.2.1 | exact Vb.out.1.1.2.1.drew⟩)
set_option maxRecDepth 100000 in
set_option maxHeartbeats 8000000 in
theorem verify_sig (L : List Rn) (p : Option Addr) (cap : Nat) (so D q dk o0 X F T : ByteArray) (sc sl now lo : Int) (c0 al t0 l g u f t tg : Nat) (k0 k1 k2 k3 : Int) (w : World) (hp : 0 < L.length) (nl : Nat) (hnl : 0 < nl) (hat : RsAt w p L) (ho0 : L[0].o = o0) (ht0 : L[0].t = (t0 : Int))
    (HS : Hid (∀ W : World, RsAt W p L → Calls Tryz.prog 22 #[.slice p nl cap] W fun r w' => r = .returned (.bool true) ∧ Below W.heap.size W w'))
    (HR : Hid (∀ W : World, Calls Tryz.prog 46 #[.agg #[.string so, .int .i64 46, .int .i64 sc, .int .i64 sl, .string D]] W fun r w' => r = .returned (.bool true) ∧ Below W.heap.size W w'))
    (HO : Hid (∀ W : World, Calls Tryz.prog 47 #[.string D] W fun r w' => r = .returned (.tuple #[.agg #[.int .i64 (t0 : Int), .int .i64 253, .int .i64 (l : Int), .int .i64 (g : Int), .int .i64 (u : Int), .int .i64 (f : Int), .int .i64 (t : Int), .string F], .string X]) ∧ Below W.heap.size W w'))
    (HK : Hid (∀ W : World, Calls Tryz.prog 48 #[.string dk] W fun r w' => r = .returned (.tuple #[.agg #[.int .i64 k0, .int .i64 k1, .int .i64 k2, .int .i64 k3], .bool true]) ∧ Below W.heap.size W w'))
    (HE : Hid (∀ W : World, Calls Tryz.prog 49 #[.string so, .string o0] W fun r w' => r = .returned (.bool true) ∧ Below W.heap.size W w'))
    (HW : Hid (∀ W : World, Calls Tryz.prog 24 #[.string o0, .string F] W fun r w' => r = .returned (.bool true) ∧ Below W.heap.size W w'))
    (HQ : Hid (∀ W : World, Calls Tryz.prog 49 #[.string q, .string F] W fun r w' => r = .returned (.bool true) ∧ Below W.heap.size W w'))
    (HT : Hid (∀ W : World, Calls Tryz.prog 26 #[.string dk] W fun r w' => r = .returned (.int .i64 (t : Int)) ∧ w' = W))
    (HL : Hid (∀ W : World, Calls Tryz.prog 25 #[.string o0] W fun r w' => r = .returned (.int .i64 lo) ∧ Below W.heap.size W w'))
    (HX : Hid (∀ W : World, RsAt W p L → Calls Tryz.prog 30 #[.agg #[.int .i64 (t0 : Int), .int .i64 253, .int .i64 (l : Int), .int .i64 (g : Int), .int .i64 (u : Int), .int .i64 (f : Int), .int .i64 (t : Int), .string F], .slice p nl cap] W fun r w' => r = .returned (.string T) ∧ Below W.heap.size W w'))
    (HI : Hid (∀ W : World, Calls Tryz.prog 50 #[.string T, .string X, .agg #[.int .i64 k0, .int .i64 k1, .int .i64 k2, .int .i64 k3]] W fun r w' => r = .returned (.bool false) ∧ Below W.heap.size W w')) (hlo : ¬ lo < (l : Int)) (hnow : ¬ now < (f : Int)) (hlat : ¬ (u : Int) < now) :
    Calls Tryz.prog 11 #[.slice p nl cap, .agg #[.string so, .int .i64 46, .int .i64 sc, .int .i64 sl, .string D], .string q, .string dk, .int .i64 now] w fun r w' => r = .returned (.int .i64 26) ∧ Below w.heap.size w w' := by
  obtain ⟨W0, hW0⟩ : ∃ W0, w.alloc (.cells #[.string so, .int .i64 46, .int .i64 sc, .int .i64 sl, .string D] 27) = W0 := ⟨_, rfl⟩
  have V0 := hide' (Vs.start w #[.string so, .int .i64 46, .int .i64 sc, .int .i64 sl, .string D] p L hat)
  rw [hW0] at V0
  have HFI : Hid (∀ V : World, RsAt V p L → ∃ g off, p = some ⟨g, off, none⟩ ∧ V.cell? ⟨g, off, none⟩ = some (.string o0) ∧ V.cell? ⟨g, off + 1, none⟩ = some (.int .i64 (t0 : Int))) := fun V hV => by
    obtain ⟨g, off, hp2, hg, e0, e1, -⟩ := hV 0 hp
    rw [Nat.zero_mul, Nat.add_zero, ho0] at e0
    rw [Nat.zero_mul, Nat.add_zero, ht0] at e1
    exact ⟨g, off, hp2, e0, e1⟩
  obtain ⟨b0, off, hpp, -, -⟩ := HFI.out _ hat
  subst hpp
  have HF2 : Hid (∀ V : World, RsAt V (some ⟨b0, off, none⟩) L → V.cell? ⟨b0, off, none⟩ = some (.string o0) ∧ V.cell? ⟨b0, off + 1, none⟩ = some (.int .i64 (t0 : Int))) := fun V hV => by
    obtain ⟨g', off', hg, e0, e1⟩ := HFI.out V hV
    injection hg with hg; injection hg with h1 h2; subst h1; subst h2
    exact ⟨e0, e1⟩
  have hpi : ¬ (nl : Int) = 0 := by omega
  have hpj : (0 : Int) < (nl : Int) := by omega
  have HC : Hid (∀ V : World, Vs w V #[.string so, .int .i64 46, .int .i64 sc, .int .i64 sl, .string D] (some ⟨b0, off, none⟩) L → V.cell? ⟨w.heap.size, 0, none⟩ = some (.string so) ∧ V.cell? ⟨w.heap.size, 1, none⟩ = some (.int .i64 46) ∧ V.cell? ⟨w.heap.size, 2, none⟩ = some (.int .i64 sc) ∧ V.cell? ⟨w.heap.size, 3, none⟩ = some (.int .i64 sl) ∧ V.cell? ⟨w.heap.size, 4, none⟩ = some (.string D)) := fun V h => ⟨h.1.cell rfl, h.1.cell rfl, h.1.cell rfl, h.1.cell rfl, h.1.cell rfl⟩
  clear HFI hat ho0 ht0 hp
  go_enter Tryz.func11, Tryz.ntmps11
  go_wp2_with (first
    | (go_at_call 22; refine (HS.out _ V0.out.2.2).mono ?_; rintro r w1 ⟨rfl, hB⟩; have V1 := hide' (V0.out.step hB); clear hB; obtain ⟨s0, s1, s2, s3, s4⟩ := HC.out _ V1.out)
    | (go_at_call 46; refine (HR.out _).mono ?_; rintro r w2 ⟨rfl, hB⟩; have V2 := hide' (V1.out.step hB); clear hB s0 s1 s2 s3 s4; obtain ⟨s0, s1, s2, s3, s4⟩ := HC.out _ V2.out)
    | (go_at_call 47; refine (HO.out _).mono ?_; rintro r w3 ⟨rfl, hB⟩; have V3 := hide' (V2.out.step hB); have V4 := hide' (Vt.start V3.out #[.int .i64 (t0 : Int), .int .i64 253, .int .i64 (l : Int), .int .i64 (g : Int), .int .i64 (u : Int), .int .i64 (f : Int), .int .i64 (t : Int), .string F]); clear hB s0 s1 s2 s3 s4)
    | (go_at_call 48; refine (HK.out _).mono ?_; rintro r w4 ⟨rfl, hB⟩; have V5 := hide' (V4.out.step hB); have V6 := hide' (Vu.start V5.out #[.int .i64 k0, .int .i64 k1, .int .i64 k2, .int .i64 k3]); obtain ⟨e0, e1⟩ := HF2.out _ V6.out.1.1.2.2; clear hB))
  clear V0 V1 V2 V3 V4 V5
  obtain ⟨W6, hW6⟩ : ∃ W6, w4.alloc (.cells #[.int .i64 k0, .int .i64 k1, .int .i64 k2, .int .i64 k3] 23) = W6 := ⟨_, rfl⟩
  obtain ⟨Q, hQ⟩ : ∃ Q, w3.heap.size = Q := ⟨_, rfl⟩
  obtain ⟨K, hK⟩ : ∃ K, w4.heap.size = K := ⟨_, rfl⟩
  rw [hW6] at V6 e0 e1
  rw [hQ, hK] at V6
  simp only [hW6, hQ, hK]
  clear hW6 hQ hK hW0
  have QF : Hid (∀ V : World, Vu w V Q K #[.string so, .int .i64 46, .int .i64 sc, .int .i64 sl, .string D] #[.int .i64 (t0 : Int), .int .i64 253, .int .i64 (l : Int), .int .i64 (g : Int), .int .i64 (u : Int), .int .i64 (f : Int), .int .i64 (t : Int), .string F] #[.int .i64 k0, .int .i64 k1, .int .i64 k2, .int .i64 k3] (some ⟨b0, off, none⟩) L → V.cell? ⟨w.heap.size, 0, none⟩ = some (.string so) ∧ V.cell? ⟨Q, 0, none⟩ = some (.int .i64 (t0 : Int)) ∧ V.cell? ⟨Q, 1, none⟩ = some (.int .i64 253) ∧ V.cell? ⟨Q, 2, none⟩ = some (.int .i64 (l : Int)) ∧ V.cell? ⟨Q, 3, none⟩ = some (.int .i64 (g : Int)) ∧ V.cell? ⟨Q, 4, none⟩ = some (.int .i64 (u : Int)) ∧ V.cell? ⟨Q, 5, none⟩ = some (.int .i64 (f : Int)) ∧ V.cell? ⟨Q, 6, none⟩ = some (.int .i64 (t : Int)) ∧ V.cell? ⟨Q, 7, none⟩ = some (.string F) ∧ V.cell? ⟨b0, off, none⟩ = some (.string o0) ∧ V.cell? ⟨b0, off + 1, none⟩ = some (.int .i64 (t0 : Int)) ∧ V.cell? ⟨K, 0, none⟩ = some (.int .i64 k0) ∧ V.cell? ⟨K, 1, none⟩ = some (.int .i64 k1) ∧ V.cell? ⟨K, 2, none⟩ = some (.int .i64 k2) ∧ V.cell? ⟨K, 3, none⟩ = some (.int .i64 k3)) := fun V h => ⟨h.1.1.1.cell rfl, h.1.2.cell rfl, h.1.2.cell rfl, h.1.2.cell rfl, h.1.2.cell rfl, h.1.2.cell rfl, h.1.2.cell rfl, h.1.2.cell rfl, h.1.2.cell rfl, (HF2.out V h.1.1.2.2).1, (HF2.out V h.1.1.2.2).2, h.2.cell rfl, h.2.cell rfl, h.2.cell rfl, h.2.cell rfl⟩
  clear e0 e1
  obtain ⟨s0, q0, q1, q2, q3, q4, q5, q6, q7, e0, e1, y0, y1, y2, y3⟩ := QF.out _ V6.out
  go_region_held3 (fun V => V.cell? ⟨Q, 0, none⟩ = some (.int .i64 (t0 : Int)) ∧ V.cell? ⟨b0, off + 1, none⟩ = some (.int .i64 (t0 : Int))) (first | go_keep) (fail)
  have T1 : Hid True := trivial
  go_wp2_with (first
    | (go_at_call 49; have _ := T1; clear T1; refine (HE.out _).mono ?_; rintro r w7 ⟨rfl, hB⟩; have V7 := hide' (show Vu w w7 Q K #[.string so, .int .i64 46, .int .i64 sc, .int .i64 sl, .string D] #[.int .i64 (t0 : Int), .int .i64 253, .int .i64 (l : Int), .int .i64 (g : Int), .int .i64 (u : Int), .int .i64 (f : Int), .int .i64 (t : Int), .string F] #[.int .i64 k0, .int .i64 k1, .int .i64 k2, .int .i64 k3] (some ⟨b0, off, none⟩) L by first | exact V6.out.step hB | exact V6.out.drew.step hB); clear hB; clear s0 q0 q1 q2 q3 q4 q5 q6 q7 e0 e1 y0 y1 y2 y3; obtain ⟨s0, q0, q1, q2, q3, q4, q5, q6, q7, e0, e1, y0, y1, y2, y3⟩ := QF.out _ V7.out)
    | (go_at_call 24; refine (HW.out _).mono ?_; rintro r w8 ⟨rfl, hB⟩; have V8 := hide' (show Vu w w8 Q K #[.string so, .int .i64 46, .int .i64 sc, .int .i64 sl, .string D] #[.int .i64 (t0 : Int), .int .i64 253, .int .i64 (l : Int), .int .i64 (g : Int), .int .i64 (u : Int), .int .i64 (f : Int), .int .i64 (t : Int), .string F] #[.int .i64 k0, .int .i64 k1, .int .i64 k2, .int .i64 k3] (some ⟨b0, off, none⟩) L by first | exact V7.out.step hB | exact V7.out.drew.step hB); clear hB; clear s0 q0 q1 q2 q3 q4 q5 q6 q7 e0 e1 y0 y1 y2 y3; obtain ⟨s0, q0, q1, q2, q3, q4, q5, q6, q7, e0, e1, y0, y1, y2, y3⟩ := QF.out _ V8.out)
    | (go_at_call 49; refine (HQ.out _).mono ?_; rintro r w9 ⟨rfl, hB⟩; have V9 := hide' (show Vu w w9 Q K #[.string so, .int .i64 46, .int .i64 sc, .int .i64 sl, .string D] #[.int .i64 (t0 : Int), .int .i64 253, .int .i64 (l : Int), .int .i64 (g : Int), .int .i64 (u : Int), .int .i64 (f : Int), .int .i64 (t : Int), .string F] #[.int .i64 k0, .int .i64 k1, .int .i64 k2, .int .i64 k3] (some ⟨b0, off, none⟩) L by first | exact V8.out.step hB | exact V8.out.drew.step hB); clear hB; clear s0 q0 q1 q2 q3 q4 q5 q6 q7 e0 e1 y0 y1 y2 y3; obtain ⟨s0, q0, q1, q2, q3, q4, q5, q6, q7, e0, e1, y0, y1, y2, y3⟩ := QF.out _ V9.out))
  go_region_held3 (fun V => V.cell? ⟨Q, 1, none⟩ = some (.int .i64 253) ∧ V.cell? ⟨Q, 6, none⟩ = some (.int .i64 (t : Int))) (first | go_keep | exact ⟨Va.out.1.2.cell rfl, Va.out.1.2.cell rfl⟩) ((go_at_call 26; refine (HT.out _).mono ?_; rintro r wa ⟨rfl, hwa⟩; have Va := hide' (show Vu w wa Q K #[.string so, .int .i64 46, .int .i64 sc, .int .i64 sl, .string D] #[.int .i64 (t0 : Int), .int .i64 253, .int .i64 (l : Int), .int .i64 (g : Int), .int .i64 (u : Int), .int .i64 (f : Int), .int .i64 (t : Int), .string F] #[.int .i64 k0, .int .i64 k1, .int .i64 k2, .int .i64 k3] (some ⟨b0, off, none⟩) L by first | (rw [hwa]; exact V9.out) | (rw [hwa]; exact V9.out.drew)); clear hwa))
  all_goals (clear s0 q0 q1 q2 q3 q4 q5 q6 q7 e0 e1 y0 y1 y2 y3)
  all_goals (obtain ⟨s0, q0, q1, q2, q3, q4, q5, q6, q7, e0, e1, y0, y1, y2, y3⟩ := QF.out _ Va.out)
  all_goals (go_wp2_with fail)
  all_goals (go_region_held3 (fun V => V.cell? ⟨Q, 2, none⟩ = some (.int .i64 (l : Int))) (first | go_keep | exact Vb.out.1.2.cell rfl) ((go_at_call 25; refine (HL.out _).mono ?_; rintro r wb ⟨rfl, hB⟩; have Vb := hide' (show Vu w wb Q K #[.string so, .int .i64 46, .int .i64 sc, .int .i64 sl, .string D] #[.int .i64 (t0 : Int), .int .i64 253, .int .i64 (l : Int), .int .i64 (g : Int), .int .i64 (u : Int), .int .i64 (f : Int), .int .i64 (t : Int), .string F] #[.int .i64 k0, .int .i64 k1, .int .i64 k2, .int .i64 k3] (some ⟨b0, off, none⟩) L by first | exact Va.out.step hB | exact Va.out.drew.step hB); clear hB)))
  all_goals (clear s0 q0 q1 q2 q3 q4 q5 q6 q7 e0 e1 y0 y1 y2 y3)
  all_goals (obtain ⟨s0, q0, q1, q2, q3, q4, q5, q6, q7, e0, e1, y0, y1, y2, y3⟩ := QF.out _ Vb.out)
  all_goals (go_wp2_with fail)
  all_goals (have QG : Hid (∀ V : World, Vu w V Q K #[.string so, .int .i64 46, .int .i64 sc, .int .i64 sl, .string D] #[.int .i64 (t0 : Int), .int .i64 253, .int .i64 (l : Int), .int .i64 (g : Int), .int .i64 (u : Int), .int .i64 (f : Int), .int .i64 (t : Int), .string F] #[.int .i64 k0, .int .i64 k1, .int .i64 k2, .int .i64 k3] (some ⟨b0, off, none⟩) L → V.cell? ⟨Q, 0, none⟩ = some (.int .i64 (t0 : Int)) ∧ V.cell? ⟨Q, 1, none⟩ = some (.int .i64 253) ∧ V.cell? ⟨Q, 2, none⟩ = some (.int .i64 (l : Int)) ∧ V.cell? ⟨Q, 3, none⟩ = some (.int .i64 (g : Int)) ∧ V.cell? ⟨Q, 4, none⟩ = some (.int .i64 (u : Int)) ∧ V.cell? ⟨Q, 5, none⟩ = some (.int .i64 (f : Int)) ∧ V.cell? ⟨Q, 6, none⟩ = some (.int .i64 (t : Int)) ∧ V.cell? ⟨Q, 7, none⟩ = some (.string F) ∧ V.cell? ⟨K, 0, none⟩ = some (.int .i64 k0) ∧ V.cell? ⟨K, 1, none⟩ = some (.int .i64 k1) ∧ V.cell? ⟨K, 2, none⟩ = some (.int .i64 k2) ∧ V.cell? ⟨K, 3, none⟩ = some (.int .i64 k3)) := fun V h => ⟨h.1.2.cell rfl, h.1.2.cell rfl, h.1.2.cell rfl, h.1.2.cell rfl, h.1.2.cell rfl, h.1.2.cell rfl, h.1.2.cell rfl, h.1.2.cell rfl, h.2.cell rfl, h.2.cell rfl, h.2.cell rfl, h.2.cell rfl⟩)
  all_goals (go_region_held3 (fun V => V.cell? ⟨Q, 0, none⟩ = some (.int .i64 (t0 : Int)) ∧ V.cell? ⟨Q, 1, none⟩ = some (.int .i64 253) ∧ V.cell? ⟨Q, 2, none⟩ = some (.int .i64 (l : Int)) ∧ V.cell? ⟨Q, 3, none⟩ = some (.int .i64 (g : Int)) ∧ V.cell? ⟨Q, 4, none⟩ = some (.int .i64 (u : Int)) ∧ V.cell? ⟨Q, 5, none⟩ = some (.int .i64 (f : Int)) ∧ V.cell? ⟨Q, 6, none⟩ = some (.int .i64 (t : Int)) ∧ V.cell? ⟨Q, 7, none⟩ = some (.string F) ∧ V.cell? ⟨K, 0, none⟩ = some (.int .i64 k0) ∧ V.cell? ⟨K, 1, none⟩ = some (.int .i64 k1) ∧ V.cell? ⟨K, 2, none⟩ = some (.int .i64 k2) ∧ V.cell? ⟨K, 3, none⟩ = some (.int .i64 k3)) (first | go_keep | exact QG.out _ Vd.out | exact QG.out _ Vc.out) (first
    | (go_at_call 30; refine (HX.out _ (show RsAt _ _ L by first | exact Vb.out.1.1.2.2 | exact Vb.out.drew.1.1.2.2)).mono ?_; rintro r wc ⟨rfl, hB⟩; have Vc := hide' (show Vu w wc Q K #[.string so, .int .i64 46, .int .i64 sc, .int .i64 sl, .string D] #[.int .i64 (t0 : Int), .int .i64 253, .int .i64 (l : Int), .int .i64 (g : Int), .int .i64 (u : Int), .int .i64 (f : Int), .int .i64 (t : Int), .string F] #[.int .i64 k0, .int .i64 k1, .int .i64 k2, .int .i64 k3] (some ⟨b0, off, none⟩) L by first | exact Vb.out.step hB | exact Vb.out.drew.step hB); clear hB)
    | (go_at_call 50; refine (HI.out _).mono ?_; rintro r wd ⟨rfl, hB⟩; have Vd := hide' (show Vu w wd Q K #[.string so, .int .i64 46, .int .i64 sc, .int .i64 sl, .string D] #[.int .i64 (t0 : Int), .int .i64 253, .int .i64 (l : Int), .int .i64 (g : Int), .int .i64 (u : Int), .int .i64 (f : Int), .int .i64 (t : Int), .string F] #[.int .i64 k0, .int .i64 k1, .int .i64 k2, .int .i64 k3] (some ⟨b0, off, none⟩) L by first | exact Vc.out.step hB | exact Vc.out.drew.step hB); clear hB)))
  all_goals (go_wp2_with fail)
  all_goals go_ret
  all_goals (exact ⟨rfl, by first | exact Vd.out.1.1.2.1 | exact Vd.out.1.1.2.1.drew⟩)
end Go.Proofs.YtennkhdhnbdbeaaGreat
