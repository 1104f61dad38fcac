import Derived.Test.YtennkhdhnbdbeaaGreatCn1G
import Derived.Test.YtennkhdhnbdbeaaGreatSg7G
import Derived.Test.YtennkhdhnbdbeaaGreatSf1G
/-
  seal.Verify, where what is asked ahead of the time is right. (The verifier's own text.)
-/
namespace Go.Proofs.YtennkhdhnbdbeaaGreat
set_option linter.unusedVariables false
set_option linter.unusedSimpArgs false
open Go.RowKit Go.Shelf Go.Sort Go.Proofs.YtennkhdhnbdbeaaGreat.Nm

/-- what lies in memory along Verify -/
def Vs (w wc : World) (sg : Array Value) (p : Option Addr) (L : List Rn) : Prop := Bx wc w.heap.size sg 27 ∧ Below w.heap.size w wc ∧ RsAt wc p L
theorem Vs.step {w wc wd : World} {sg : Array Value} {p : Option Addr} {L : List Rn} (h : Vs w wc sg p L) (hB : Below wc.heap.size wc wd) : Vs w wd sg p L := ⟨h.1.below hB h.1.lt, bstep h.2.1 hB h.2.1.size, rsAt_below7 h.2.2 hB⟩
theorem Vs.drew {w wc : World} {sg : Array Value} {p : Option Addr} {L : List Rn} (h : Vs w wc sg p L) : Vs w wc.drew sg p L := ⟨h.1, h.2.1.drew, h.2.2⟩
theorem Vs.start (w : World) (sg : Array Value) (p : Option Addr) (L : List Rn) (hat : RsAt w p L) : Vs w (w.alloc (.cells sg 27)) sg p L :=
  ⟨World.alloc_heap_new w _, (Below.refl _ _).alloc (Nat.le_refl _) _, rsAt_below7 hat ((Below.refl _ _).alloc (Nat.le_refl _) _)⟩
/-- with the stamp and the key -/
def Vt (w wc : World) (Q : Nat) (sg st : Array Value) (p : Option Addr) (L : List Rn) : Prop := Vs w wc sg p L ∧ Bx wc Q st 53
theorem Vt.step {w wc wd : World} {Q : Nat} {sg st : Array Value} {p : Option Addr} {L : List Rn} (h : Vt w wc Q sg st p L) (hB : Below wc.heap.size wc wd) : Vt w wd Q sg st p L := ⟨h.1.step hB, h.2.below hB h.2.lt⟩
theorem Vt.start {w wc : World} {sg : Array Value} {p : Option Addr} {L : List Rn} (h : Vs w wc sg p L) (st : Array Value) : Vt w (wc.alloc (.cells st 53)) wc.heap.size sg st p L := ⟨h.step ((Below.refl _ _).alloc (Nat.le_refl _) _), World.alloc_heap_new wc _⟩
def Vu (w wc : World) (Q K : Nat) (sg st ky : Array Value) (p : Option Addr) (L : List Rn) : Prop := Vt w wc Q sg st p L ∧ Bx wc K ky 23
theorem Vu.step {w wc wd : World} {Q K : Nat} {sg st ky : Array Value} {p : Option Addr} {L : List Rn} (h : Vu w wc Q K sg st ky p L) (hB : Below wc.heap.size wc wd) : Vu w wd Q K sg st ky p L := ⟨h.1.step hB, h.2.below hB h.2.lt⟩
theorem Vu.drew {w wc : World} {Q K : Nat} {sg st ky : Array Value} {p : Option Addr} {L : List Rn} (h : Vu w wc Q K sg st ky p L) : Vu w wc.drew Q K sg st ky p L := ⟨⟨h.1.1.drew, h.1.2⟩, h.2⟩
theorem Vu.start {w wc : World} {Q : Nat} {sg st : Array Value} {p : Option Addr} {L : List Rn} (h : Vt w wc Q sg st p L) (ky : Array Value) : Vu w (wc.alloc (.cells ky 23)) Q wc.heap.size sg st ky p L := ⟨h.step ((Below.refl _ _).alloc (Nat.le_refl _) _), World.alloc_heap_new wc _⟩
set_option maxRecDepth 100000 in
set_option maxHeartbeats 8000000 in
theorem verify_early (L : List Rn) (p : Option Addr) (cap : Nat) (so D q dk o0 X F T : ByteArray) (sc sl now lo : Int) (t0 l g u f t : Nat) (k0 k1 k2 k3 : Int) (fb : Bool) (w : World) (hp : 0 < L.length) (nl : Nat) (hnl : 0 < nl) (hat : RsAt w p L) (ho0 : L[0].o = o0) (ht0 : L[0].t = (t0 : Int))
    (HS : Hid (∀ W : World, RsAt W p L → Calls Tryz.prog 22 #[.slice p nl cap] W fun r w' => r = .returned (.bool true) ∧ Below W.heap.size W w'))
    (HR : Hid (∀ W : World, Calls Tryz.prog 46 #[.agg #[.string so, .int .i64 46, .int .i64 sc, .int .i64 sl, .string D]] W fun r w' => r = .returned (.bool true) ∧ Below W.heap.size W w'))
    (HO : Hid (∀ W : World, Calls Tryz.prog 47 #[.string D] W fun r w' => r = .returned (.tuple #[.agg #[.int .i64 (t0 : Int), .int .i64 253, .int .i64 (l : Int), .int .i64 (g : Int), .int .i64 (u : Int), .int .i64 (f : Int), .int .i64 (t : Int), .string F], .string X]) ∧ Below W.heap.size W w'))
    (HK : Hid (∀ W : World, Calls Tryz.prog 48 #[.string dk] W fun r w' => r = .returned (.tuple #[.agg #[.int .i64 k0, .int .i64 k1, .int .i64 k2, .int .i64 k3], .bool true]) ∧ Below W.heap.size W w'))
    (HE : Hid (∀ W : World, Calls Tryz.prog 49 #[.string so, .string o0] W fun r w' => r = .returned (.bool true) ∧ Below W.heap.size W w'))
    (HW : Hid (∀ W : World, Calls Tryz.prog 24 #[.string o0, .string F] W fun r w' => r = .returned (.bool true) ∧ Below W.heap.size W w'))
    (HQ : Hid (∀ W : World, Calls Tryz.prog 49 #[.string q, .string F] W fun r w' => r = .returned (.bool true) ∧ Below W.heap.size W w'))
    (HT : Hid (∀ W : World, Calls Tryz.prog 26 #[.string dk] W fun r w' => r = .returned (.int .i64 (t : Int)) ∧ w' = W))
    (HL : Hid (∀ W : World, Calls Tryz.prog 25 #[.string o0] W fun r w' => r = .returned (.int .i64 lo) ∧ Below W.heap.size W w'))
    (hlo : ¬ lo < (l : Int))
    (HX : Hid (∀ W : World, RsAt W p L → Calls Tryz.prog 30 #[.agg #[.int .i64 (t0 : Int), .int .i64 253, .int .i64 (l : Int), .int .i64 (g : Int), .int .i64 (u : Int), .int .i64 (f : Int), .int .i64 (t : Int), .string F], .slice p nl cap] W fun r w' => r = .returned (.string T) ∧ Below W.heap.size W w'))
    (HI : Hid (∀ W : World, Calls Tryz.prog 50 #[.string T, .string X, .agg #[.int .i64 k0, .int .i64 k1, .int .i64 k2, .int .i64 k3]] W fun r w' => r = .returned (.bool fb) ∧ Below W.heap.size W w')) (hnow : now < (f : Int)) :
    Calls Tryz.prog 11 #[.slice p nl cap, .agg #[.string so, .int .i64 46, .int .i64 sc, .int .i64 sl, .string D], .string q, .string dk, .int .i64 now] w fun r w' => r = .returned (.int .i64 25) ∧ Below w.heap.size w w' := by
  obtain ⟨W0, hW0⟩ : ∃ W0, w.alloc (.cells #[.string so, .int .i64 46, .int .i64 sc, .int .i64 sl, .string D] 27) = W0 := ⟨_, rfl⟩
  have V0 := hide' (Vs.start w #[.string so, .int .i64 46, .int .i64 sc, .int .i64 sl, .string D] p L hat)
  rw [hW0] at V0
  have HFI : Hid (∀ V : World, RsAt V p L → ∃ g off, p = some ⟨g, off, none⟩ ∧ V.cell? ⟨g, off, none⟩ = some (.string o0) ∧ V.cell? ⟨g, off + 1, none⟩ = some (.int .i64 (t0 : Int))) := fun V hV => by
    obtain ⟨g, off, hp2, hg, e0, e1, -⟩ := hV 0 hp
    rw [Nat.zero_mul, Nat.add_zero, ho0] at e0
    rw [Nat.zero_mul, Nat.add_zero, ht0] at e1
    exact ⟨g, off, hp2, e0, e1⟩
  obtain ⟨b0, off, hpp, -, -⟩ := HFI.out _ hat
  subst hpp
  have HF2 : Hid (∀ V : World, RsAt V (some ⟨b0, off, none⟩) L → V.cell? ⟨b0, off, none⟩ = some (.string o0) ∧ V.cell? ⟨b0, off + 1, none⟩ = some (.int .i64 (t0 : Int))) := fun V hV => by
    obtain ⟨g', off', hg, e0, e1⟩ := HFI.out V hV
    injection hg with hg; injection hg with h1 h2; subst h1; subst h2
    exact ⟨e0, e1⟩
  have hpi : ¬ (nl : Int) = 0 := by omega
  have hpj : (0 : Int) < (nl : Int) := by omega
  have HC : Hid (∀ V : World, Vs w V #[.string so, .int .i64 46, .int .i64 sc, .int .i64 sl, .string D] (some ⟨b0, off, none⟩) L → V.cell? ⟨w.heap.size, 0, none⟩ = some (.string so) ∧ V.cell? ⟨w.heap.size, 1, none⟩ = some (.int .i64 46) ∧ V.cell? ⟨w.heap.size, 2, none⟩ = some (.int .i64 sc) ∧ V.cell? ⟨w.heap.size, 3, none⟩ = some (.int .i64 sl) ∧ V.cell? ⟨w.heap.size, 4, none⟩ = some (.string D)) := fun V h => ⟨h.1.cell rfl, h.1.cell rfl, h.1.cell rfl, h.1.cell rfl, h.1.cell rfl⟩
  clear HFI hat ho0 ht0 hp
  go_enter Tryz.func11, Tryz.ntmps11
  go_wp2_with (first
    | (go_at_call 22; refine (HS.out _ V0.out.2.2).mono ?_; rintro r w1 ⟨rfl, hB⟩; have V1 := hide' (V0.out.step hB); clear hB; obtain ⟨s0, s1, s2, s3, s4⟩ := HC.out _ V1.out)
    | (go_at_call 46; refine (HR.out _).mono ?_; rintro r w2 ⟨rfl, hB⟩; have V2 := hide' (V1.out.step hB); clear hB s0 s1 s2 s3 s4; obtain ⟨s0, s1, s2, s3, s4⟩ := HC.out _ V2.out)
    | (go_at_call 47; refine (HO.out _).mono ?_; rintro r w3 ⟨rfl, hB⟩; have V3 := hide' (V2.out.step hB); have V4 := hide' (Vt.start V3.out #[.int .i64 (t0 : Int), .int .i64 253, .int .i64 (l : Int), .int .i64 (g : Int), .int .i64 (u : Int), .int .i64 (f : Int), .int .i64 (t : Int), .string F]); clear hB s0 s1 s2 s3 s4)
    | (go_at_call 48; refine (HK.out _).mono ?_; rintro r w4 ⟨rfl, hB⟩; have V5 := hide' (V4.out.step hB); have V6 := hide' (Vu.start V5.out #[.int .i64 k0, .int .i64 k1, .int .i64 k2, .int .i64 k3]); obtain ⟨e0, e1⟩ := HF2.out _ V6.out.1.1.2.2; clear hB))
  clear V0 V1 V2 V3 V4 V5
  obtain ⟨W6, hW6⟩ : ∃ W6, w4.alloc (.cells #[.int .i64 k0, .int .i64 k1, .int .i64 k2, .int .i64 k3] 23) = W6 := ⟨_, rfl⟩
  obtain ⟨Q, hQ⟩ : ∃ Q, w3.heap.size = Q := ⟨_, rfl⟩
  obtain ⟨K, hK⟩ : ∃ K, w4.heap.size = K := ⟨_, rfl⟩
  rw [hW6] at V6 e0 e1
  rw [hQ, hK] at V6
  simp only [hW6, hQ, hK]
  clear hW6 hQ hK hW0
  have QF : Hid (∀ V : World, Vu w V Q K #[.string so, .int .i64 46, .int .i64 sc, .int .i64 sl, .string D] #[.int .i64 (t0 : Int), .int .i64 253, .int .i64 (l : Int), .int .i64 (g : Int), .int .i64 (u : Int), .int .i64 (f : Int), .int .i64 (t : Int), .string F] #[.int .i64 k0, .int .i64 k1, .int .i64 k2, .int .i64 k3] (some ⟨b0, off, none⟩) L → V.cell? ⟨w.heap.size, 0, none⟩ = some (.string so) ∧ V.cell? ⟨Q, 0, none⟩ = some (.int .i64 (t0 : Int)) ∧ V.cell? ⟨Q, 1, none⟩ = some (.int .i64 253) ∧ V.cell? ⟨Q, 2, none⟩ = some (.int .i64 (l : Int)) ∧ V.cell? ⟨Q, 3, none⟩ = some (.int .i64 (g : Int)) ∧ V.cell? ⟨Q, 4, none⟩ = some (.int .i64 (u : Int)) ∧ V.cell? ⟨Q, 5, none⟩ = some (.int .i64 (f : Int)) ∧ V.cell? ⟨Q, 6, none⟩ = some (.int .i64 (t : Int)) ∧ V.cell? ⟨Q, 7, none⟩ = some (.string F) ∧ V.cell? ⟨b0, off, none⟩ = some (.string o0) ∧ V.cell? ⟨b0, off + 1, none⟩ = some (.int .i64 (t0 : Int)) ∧ V.cell? ⟨K, 0, none⟩ = some (.int .i64 k0) ∧ V.cell? ⟨K, 1, none⟩ = some (.int .i64 k1) ∧ V.cell? ⟨K, 2, none⟩ = some (.int .i64 k2) ∧ V.cell? ⟨K, 3, none⟩ = some (.int .i64 k3)) := fun V h => ⟨h.1.1.1.cell rfl, h.1.2.cell rfl, h.1.2.cell rfl, h.1.2.cell rfl, h.1.2.cell rfl, h.1.2.cell rfl, h.1.2.cell rfl, h.1.2.cell rfl, h.1.2.cell rfl, (HF2.out V h.1.1.2.2).1, (HF2.out V h.1.1.2.2).2, h.2.cell rfl, h.2.cell rfl, h.2.cell rfl, h.2.cell rfl⟩
  clear e0 e1
  obtain ⟨s0, q0, q1, q2, q3, q4, q5, q6, q7, e0, e1, y0, y1, y2, y3⟩ := QF.out _ V6.out
  go_region_held3 (fun V => V.cell? ⟨Q, 0, none⟩ = some (.int .i64 (t0 : Int)) ∧ V.cell? ⟨b0, off + 1, none⟩ = some (.int .i64 (t0 : Int))) (first | go_keep) (fail)
  have T1 : Hid True := trivial
  go_wp2_with (first
    | (go_at_call 49; have _ := T1; clear T1; refine (HE.out _).mono ?_; rintro r w7 ⟨rfl, hB⟩; have V7 := hide' (show Vu w w7 Q K #[.string so, .int .i64 46, .int .i64 sc, .int .i64 sl, .string D] #[.int .i64 (t0 : Int), .int .i64 253, .int .i64 (l : Int), .int .i64 (g : Int), .int .i64 (u : Int), .int .i64 (f : Int), .int .i64 (t : Int), .string F] #[.int .i64 k0, .int .i64 k1, .int .i64 k2, .int .i64 k3] (some ⟨b0, off, none⟩) L by first | exact V6.out.step hB | exact V6.out.drew.step hB); clear hB; clear s0 q0 q1 q2 q3 q4 q5 q6 q7 e0 e1 y0 y1 y2 y3; obtain ⟨s0, q0, q1, q2, q3, q4, q5, q6, q7, e0, e1, y0, y1, y2, y3⟩ := QF.out _ V7.out)
    | (go_at_call 24; refine (HW.out _).mono ?_; rintro r w8 ⟨rfl, hB⟩; have V8 := hide' (show Vu w w8 Q K #[.string so, .int .i64 46, .int .i64 sc, .int .i64 sl, .string D] #[.int .i64 (t0 : Int), .int .i64 253, .int .i64 (l : Int), .int .i64 (g : Int), .int .i64 (u : Int), .int .i64 (f : Int), .int .i64 (t : Int), .string F] #[.int .i64 k0, .int .i64 k1, .int .i64 k2, .int .i64 k3] (some ⟨b0, off, none⟩) L by first | exact V7.out.step hB | exact V7.out.drew.step hB); clear hB; clear s0 q0 q1 q2 q3 q4 q5 q6 q7 e0 e1 y0 y1 y2 y3; obtain ⟨s0, q0, q1, q2, q3, q4, q5, q6, q7, e0, e1, y0, y1, y2, y3⟩ := QF.out _ V8.out)
    | (go_at_call 49; refine (HQ.out _).mono ?_; rintro r w9 ⟨rfl, hB⟩; have V9 := hide' (show Vu w w9 Q K #[.string so, .int .i64 46, .int .i64 sc, .int .i64 sl, .string D] #[.int .i64 (t0 : Int), .int .i64 253, .int .i64 (l : Int), .int .i64 (g : Int), .int .i64 (u : Int), .int .i64 (f : Int), .int .i64 (t : Int), .string F] #[.int .i64 k0, .int .i64 k1, .int .i64 k2, .int .i64 k3] (some ⟨b0, off, none⟩) L by first | exact V8.out.step hB | exact V8.out.drew.step hB); clear hB; clear s0 q0 q1 q2 q3 q4 q5 q6 q7 e0 e1 y0 y1 y2 y3; obtain ⟨s0, q0, q1, q2, q3, q4, q5, q6, q7, e0, e1, y0, y1, y2, y3⟩ := QF.out _ V9.out))
  clear V6 V7 V8 HE HW HQ HO HK HR HS
  go_region_held3 (fun V => V.cell? ⟨Q, 1, none⟩ = some (.int .i64 253) ∧ V.cell? ⟨Q, 6, none⟩ = some (.int .i64 (t : Int))) (first | go_keep | exact ⟨Va.out.1.2.cell rfl, Va.out.1.2.cell rfl⟩) ((go_at_call 26; refine (HT.out _).mono ?_; rintro r wa ⟨rfl, hwa⟩; have Va := hide' (show Vu w wa Q K #[.string so, .int .i64 46, .int .i64 sc, .int .i64 sl, .string D] #[.int .i64 (t0 : Int), .int .i64 253, .int .i64 (l : Int), .int .i64 (g : Int), .int .i64 (u : Int), .int .i64 (f : Int), .int .i64 (t : Int), .string F] #[.int .i64 k0, .int .i64 k1, .int .i64 k2, .int .i64 k3] (some ⟨b0, off, none⟩) L by first | (rw [hwa]; exact V9.out) | (rw [hwa]; exact V9.out.drew)); clear hwa))
  all_goals (clear s0 q0 q1 q2 q3 q4 q5 q6 q7 e0 e1 y0 y1 y2 y3)
  all_goals (obtain ⟨s0, q0, q1, q2, q3, q4, q5, q6, q7, e0, e1, y0, y1, y2, y3⟩ := QF.out _ Va.out)
  all_goals (go_wp2_with fail)
  all_goals (go_region_held3 (fun V => V.cell? ⟨Q, 2, none⟩ = some (.int .i64 (l : Int))) (first | go_keep | exact Vb.out.1.2.cell rfl) ((go_at_call 25; refine (HL.out _).mono ?_; rintro r wb ⟨rfl, hB⟩; have Vb := hide' (show Vu w wb Q K #[.string so, .int .i64 46, .int .i64 sc, .int .i64 sl, .string D] #[.int .i64 (t0 : Int), .int .i64 253, .int .i64 (l : Int), .int .i64 (g : Int), .int .i64 (u : Int), .int .i64 (f : Int), .int .i64 (t : Int), .string F] #[.int .i64 k0, .int .i64 k1, .int .i64 k2, .int .i64 k3] (some ⟨b0, off, none⟩) L by first | exact Va.out.step hB | exact Va.out.drew.step hB); clear hB)))
  all_goals (clear s0 q0 q1 q2 q3 q4 q5 q6 q7 e0 e1 y0 y1 y2 y3)
  all_goals (obtain ⟨s0, q0, q1, q2, q3, q4, q5, q6, q7, e0, e1, y0, y1, y2, y3⟩ := QF.out _ Vb.out)
  all_goals (go_wp2_with fail)
  all_goals go_ret
  all_goals (exact ⟨rfl, by first | exact Vb.out.1.1.2.1 | exact Vb.out.1.1.2.1.drew⟩)
set_option maxRecDepth 100000 in
set_option maxHeartbeats 8000000 in
theorem verify_late (L : List Rn) (p : Option Addr) (cap : Nat) (so D q dk o0 X F T : ByteArray) (sc sl now lo : Int) (t0 l g u f t : Nat) (k0 k1 k2 k3 : Int) (fb : Bool) (w : World) (hp : 0 < L.length) (nl : Nat) (hnl : 0 < nl) (hat : RsAt w p L) (ho0 : L[0].o = o0) (ht0 : L[0].t = (t0 : Int))
    (HS : Hid (∀ W : World, RsAt W p L → Calls Tryz.prog 22 #[.slice p nl cap] W fun r w' => r = .returned (.bool true) ∧ Below W.heap.size W w'))
    (HR : Hid (∀ W : World, Calls Tryz.prog 46 #[.agg #[.string so, .int .i64 46, .int .i64 sc, .int .i64 sl, .string D]] W fun r w' => r = .returned (.bool true) ∧ Below W.heap.size W w'))
    (HO : Hid (∀ W : World, Calls Tryz.prog 47 #[.string D] W fun r w' => r = .returned (.tuple #[.agg #[.int .i64 (t0 : Int), .int .i64 253, .int .i64 (l : Int), .int .i64 (g : Int), .int .i64 (u : Int), .int .i64 (f : Int), .int .i64 (t : Int), .string F], .string X]) ∧ Below W.heap.size W w'))
    (HK : Hid (∀ W : World, Calls Tryz.prog 48 #[.string dk] W fun r w' => r = .returned (.tuple #[.agg #[.int .i64 k0, .int .i64 k1, .int .i64 k2, .int .i64 k3], .bool true]) ∧ Below W.heap.size W w'))
    (HE : Hid (∀ W : World, Calls Tryz.prog 49 #[.string so, .string o0] W fun r w' => r = .returned (.bool true) ∧ Below W.heap.size W w'))
    (HW : Hid (∀ W : World, Calls Tryz.prog 24 #[.string o0, .string F] W fun r w' => r = .returned (.bool true) ∧ Below W.heap.size W w'))
    (HQ : Hid (∀ W : World, Calls Tryz.prog 49 #[.string q, .string F] W fun r w' => r = .returned (.bool true) ∧ Below W.heap.size W w'))
    (HT : Hid (∀ W : World, Calls Tryz.prog 26 #[.string dk] W fun r w' => r = .returned (.int .i64 (t : Int)) ∧ w' = W))
    (HL : Hid (∀ W : World, Calls Tryz.prog 25 #[.string o0] W fun r w' => r = .returned (.int .i64 lo) ∧ Below W.heap.size W w'))
    (hlo : ¬ lo < (l : Int))
    (HX : Hid (∀ W : World, RsAt W p L → Calls Tryz.prog 30 #[.agg #[.int .i64 (t0 : Int), .int .i64 253, .int .i64 (l : Int), .int .i64 (g : Int), .int .i64 (u : Int), .int .i64 (f : Int), .int .i64 (t : Int), .string F], .slice p nl cap] W fun r w' => r = .returned (.string T) ∧ Below W.heap.size W w'))
    (HI : Hid (∀ W : World, Calls Tryz.prog 50 #[.string T, .string X, .agg #[.int .i64 k0, .int .i64 k1, .int .i64 k2, .int .i64 k3]] W fun r w' => r = .returned (.bool fb) ∧ Below W.heap.size W w')) (hnow : ¬ now < (f : Int)) (hlat : (u : Int) < now) :
    Calls Tryz.prog 11 #[.slice p nl cap, .agg #[.string so, .int .i64 46, .int .i64 sc, .int .i64 sl, .string D], .string q, .string dk, .int .i64 now] w fun r w' => r = .returned (.int .i64 25) ∧ Below w.heap.size w w' := by
  obtain ⟨W0, hW0⟩ : ∃ W0, w.alloc (.cells #[.string so, .int .i64 46, .int .i64 sc, .int .i64 sl, .string D] 27) = W0 := ⟨_, rfl⟩
  have V0 := hide' (Vs.start w #[.string so, .int .i64 46, .int .i64 sc, .int .i64 sl, .string D] p L hat)
  rw [hW0] at V0
  have HFI : Hid (∀ V : World, RsAt V p L → ∃ g off, p = some ⟨g, off, none⟩ ∧ V.cell? ⟨g, off, none⟩ = some (.string o0) ∧ V.cell? ⟨g, off + 1, none⟩ = some (.int .i64 (t0 : Int))) := fun V hV => by
    obtain ⟨g, off, hp2, hg, e0, e1, -⟩ := hV 0 hp
    rw [Nat.zero_mul, Nat.add_zero, ho0] at e0
    rw [Nat.zero_mul, Nat.add_zero, ht0] at e1
    exact ⟨g, off, hp2, e0, e1⟩
  obtain ⟨b0, off, hpp, -, -⟩ := HFI.out _ hat
  subst hpp
  have HF2 : Hid (∀ V : World, RsAt V (some ⟨b0, off, none⟩) L → V.cell? ⟨b0, off, none⟩ = some (.string o0) ∧ V.cell? ⟨b0, off + 1, none⟩ = some (.int .i64 (t0 : Int))) := fun V hV => by
    obtain ⟨g', off', hg, e0, e1⟩ := HFI.out V hV
    injection hg with hg; injection hg with h1 h2; subst h1; subst h2
    exact ⟨e0, e1⟩
  have hpi : ¬ (nl : Int) = 0 := by omega
  have hpj : (0 : Int) < (nl : Int) := by omega
  have HC : Hid (∀ V : World, Vs w V #[.string so, .int .i64 46, .int .i64 sc, .int .i64 sl, .string D] (some ⟨b0, off, none⟩) L → V.cell? ⟨w.heap.size, 0, none⟩ = some (.string so) ∧ V.cell? ⟨w.heap.size, 1, none⟩ = some (.int .i64 46) ∧ V.cell? ⟨w.heap.size, 2, none⟩ = some (.int .i64 sc) ∧ V.cell? ⟨w.heap.size, 3, none⟩ = some (.int .i64 sl) ∧ V.cell? ⟨w.heap.size, 4, none⟩ = some (.string D)) := fun V h => ⟨h.1.cell rfl, h.1.cell rfl, h.1.cell rfl, h.1.cell rfl, h.1.cell rfl⟩
  clear HFI hat ho0 ht0 hp
  go_enter Tryz.func11, Tryz.ntmps11
  go_wp2_with (first
    | (go_at_call 22; refine (HS.out _ V0.out.2.2).mono ?_; rintro r w1 ⟨rfl, hB⟩; have V1 := hide' (V0.out.step hB); clear hB; obtain ⟨s0, s1, s2, s3, s4⟩ := HC.out _ V1.out)
    | (go_at_call 46; refine (HR.out _).mono ?_; rintro r w2 ⟨rfl, hB⟩; have V2 := hide' (V1.out.step hB); clear hB s0 s1 s2 s3 s4; obtain ⟨s0, s1, s2, s3, s4⟩ := HC.out _ V2.out)
    | (go_at_call 47; refine (HO.out _).mono ?_; rintro r w3 ⟨rfl, hB⟩; have V3 := hide' (V2.out.step hB); have V4 := hide' (Vt.start V3.out #[.int .i64 (t0 : Int), .int .i64 253, .int .i64 (l : Int), .int .i64 (g : Int), .int .i64 (u : Int), .int .i64 (f : Int), .int .i64 (t : Int), .string F]); clear hB s0 s1 s2 s3 s4)
    | (go_at_call 48; refine (HK.out _).mono ?_; rintro r w4 ⟨rfl, hB⟩; have V5 := hide' (V4.out.step hB); have V6 := hide' (Vu.start V5.out #[.int .i64 k0, .int .i64 k1, .int .i64 k2, .int .i64 k3]); obtain ⟨e0, e1⟩ := HF2.out _ V6.out.1.1.2.2; clear hB))
  clear V0 V1 V2 V3 V4 V5
  obtain ⟨W6, hW6⟩ : ∃ W6, w4.alloc (.cells #[.int .i64 k0, .int .i64 k1, .int .i64 k2, .int .i64 k3] 23) = W6 := ⟨_, rfl⟩
  obtain ⟨Q, hQ⟩ : ∃ Q, w3.heap.size = Q := ⟨_, rfl⟩
  obtain ⟨K, hK⟩ : ∃ K, w4.heap.size = K := ⟨_, rfl⟩
  rw [hW6] at V6 e0 e1
  rw [hQ, hK] at V6
  simp only [hW6, hQ, hK]
  clear hW6 hQ hK hW0
  have QF : Hid (∀ V : World, Vu w V Q K #[.string so, .int .i64 46, .int .i64 sc, .int .i64 sl, .string D] #[.int .i64 (t0 : Int), .int .i64 253, .int .i64 (l : Int), .int .i64 (g : Int), .int .i64 (u : Int), .int .i64 (f : Int), .int .i64 (t : Int), .string F] #[.int .i64 k0, .int .i64 k1, .int .i64 k2, .int .i64 k3] (some ⟨b0, off, none⟩) L → V.cell? ⟨w.heap.size, 0, none⟩ = some (.string so) ∧ V.cell? ⟨Q, 0, none⟩ = some (.int .i64 (t0 : Int)) ∧ V.cell? ⟨Q, 1, none⟩ = some (.int .i64 253) ∧ V.cell? ⟨Q, 2, none⟩ = some (.int .i64 (l : Int)) ∧ V.cell? ⟨Q, 3, none⟩ = some (.int .i64 (g : Int)) ∧ V.cell? ⟨Q, 4, none⟩ = some (.int .i64 (u : Int)) ∧ V.cell? ⟨Q, 5, none⟩ = some (.int .i64 (f : Int)) ∧ V.cell? ⟨Q, 6, none⟩ = some (.int .i64 (t : Int)) ∧ V.cell? ⟨Q, 7, none⟩ = some (.string F) ∧ V.cell? ⟨b0, off, none⟩ = some (.string o0) ∧ V.cell? ⟨b0, off + 1, none⟩ = some (.int .i64 (t0 : Int)) ∧ V.cell? ⟨K, 0, none⟩ = some (.int .i64 k0) ∧ V.cell? ⟨K, 1, none⟩ = some (.int .i64 k1) ∧ V.cell? ⟨K, 2, none⟩ = some (.int .i64 k2) ∧ V.cell? ⟨K, 3, none⟩ = some (.int .i64 k3)) := fun V h => ⟨h.1.1.1.cell rfl, h.1.2.cell rfl, h.1.2.cell rfl, h.1.2.cell rfl, h.1.2.cell rfl, h.1.2.cell rfl, h.1.2.cell rfl, h.1.2.cell rfl, h.1.2.cell rfl, (HF2.out V h.1.1.2.2).1, (HF2.out V h.1.1.2.2).2, h.2.cell rfl, h.2.cell rfl, h.2.cell rfl, h.2.cell rfl⟩
  clear e0 e1
  obtain ⟨s0, q0, q1, q2, q3, q4, q5, q6, q7, e0, e1, y0, y1, y2, y3⟩ := QF.out _ V6.out
  go_region_held3 (fun V => V.cell? ⟨Q, 0, none⟩ = some (.int .i64 (t0 : Int)) ∧ V.cell? ⟨b0, off + 1, none⟩ = some (.int .i64 (t0 : Int))) (first | go_keep) (fail)
  have T1 : Hid True := trivial
  go_wp2_with (first
    | (go_at_call 49; have _ := T1; clear T1; refine (HE.out _).mono ?_; rintro r w7 ⟨rfl, hB⟩; have V7 := hide' (show Vu w w7 Q K #[.string so, .int .i64 46, .int .i64 sc, .int .i64 sl, .string D] #[.int .i64 (t0 : Int), .int .i64 253, .int .i64 (l : Int), .int .i64 (g : Int), .int .i64 (u : Int), .int .i64 (f : Int), .int .i64 (t : Int), .string F] #[.int .i64 k0, .int .i64 k1, .int .i64 k2, .int .i64 k3] (some ⟨b0, off, none⟩) L by first | exact V6.out.step hB | exact V6.out.drew.step hB); clear hB; clear s0 q0 q1 q2 q3 q4 q5 q6 q7 e0 e1 y0 y1 y2 y3; obtain ⟨s0, q0, q1, q2, q3, q4, q5, q6, q7, e0, e1, y0, y1, y2, y3⟩ := QF.out _ V7.out)
    | (go_at_call 24; refine (HW.out _).mono ?_; rintro r w8 ⟨rfl, hB⟩; have V8 := hide' (show Vu w w8 Q K #[.string so, .int .i64 46, .int .i64 sc, .int .i64 sl, .string D] #[.int .i64 (t0 : Int), .int .i64 253, .int .i64 (l : Int), .int .i64 (g : Int), .int .i64 (u : Int), .int .i64 (f : Int), .int .i64 (t : Int), .string F] #[.int .i64 k0, .int .i64 k1, .int .i64 k2, .int .i64 k3] (some ⟨b0, off, none⟩) L by first | exact V7.out.step hB | exact V7.out.drew.step hB); clear hB; clear s0 q0 q1 q2 q3 q4 q5 q6 q7 e0 e1 y0 y1 y2 y3; obtain ⟨s0, q0, q1, q2, q3, q4, q5, q6, q7, e0, e1, y0, y1, y2, y3⟩ := QF.out _ V8.out)
    | (go_at_call 49; refine (HQ.out _).mono ?_; rintro r w9 ⟨rfl, hB⟩; have V9 := hide' (show Vu w w9 Q K #[.string so, .int .i64 46, .int .i64 sc, .int .i64 sl, .string D] #[.int .i64 (t0 : Int), .int .i64 253, .int .i64 (l : Int), .int .i64 (g : Int), .int .i64 (u : Int), .int .i64 (f : Int), .int .i64 (t : Int), .string F] #[.int .i64 k0, .int .i64 k1, .int .i64 k2, .int .i64 k3] (some ⟨b0, off, none⟩) L by first | exact V8.out.step hB | exact V8.out.drew.step hB); clear hB; clear s0 q0 q1 q2 q3 q4 q5 q6 q7 e0 e1 y0 y1 y2 y3; obtain ⟨s0, q0, q1, q2, q3, q4, q5, q6, q7, e0, e1, y0, y1, y2, y3⟩ := QF.out _ V9.out))
  clear V6 V7 V8 HE HW HQ HO HK HR HS
  go_region_held3 (fun V => V.cell? ⟨Q, 1, none⟩ = some (.int .i64 253) ∧ V.cell? ⟨Q, 6, none⟩ = some (.int .i64 (t : Int))) (first | go_keep | exact ⟨Va.out.1.2.cell rfl, Va.out.1.2.cell rfl⟩) ((go_at_call 26; refine (HT.out _).mono ?_; rintro r wa ⟨rfl, hwa⟩; have Va := hide' (show Vu w wa Q K #[.string so, .int .i64 46, .int .i64 sc, .int .i64 sl, .string D] #[.int .i64 (t0 : Int), .int .i64 253, .int .i64 (l : Int), .int .i64 (g : Int), .int .i64 (u : Int), .int .i64 (f : Int), .int .i64 (t : Int), .string F] #[.int .i64 k0, .int .i64 k1, .int .i64 k2, .int .i64 k3] (some ⟨b0, off, none⟩) L by first | (rw [hwa]; exact V9.out) | (rw [hwa]; exact V9.out.drew)); clear hwa))
  all_goals (clear s0 q0 q1 q2 q3 q4 q5 q6 q7 e0 e1 y0 y1 y2 y3)
  all_goals (obtain ⟨s0, q0, q1, q2, q3, q4, q5, q6, q7, e0, e1, y0, y1, y2, y3⟩ := QF.out _ Va.out)
  all_goals (go_wp2_with fail)
  all_goals (go_region_held3 (fun V => V.cell? ⟨Q, 2, none⟩ = some (.int .i64 (l : Int))) (first | go_keep | exact Vb.out.1.2.cell rfl) ((go_at_call 25; refine (HL.out _).mono ?_; rintro r wb ⟨rfl, hB⟩; have Vb := hide' (show Vu w wb Q K #[.string so, .int .i64 46, .int .i64 sc, .int .i64 sl, .string D] #[.int .i64 (t0 : Int), .int .i64 253, .int .i64 (l : Int), .int .i64 (g : Int), .int .i64 (u : Int), .int .i64 (f : Int), .int .i64 (t : Int), .string F] #[.int .i64 k0, .int .i64 k1, .int .i64 k2, .int .i64 k3] (some ⟨b0, off, none⟩) L by first | exact Va.out.step hB | exact Va.out.drew.step hB); clear hB)))
  all_goals (clear s0 q0 q1 q2 q3 q4 q5 q6 q7 e0 e1 y0 y1 y2 y3)
  all_goals (obtain ⟨s0, q0, q1, q2, q3, q4, q5, q6, q7, e0, e1, y0, y1, y2, y3⟩ := QF.out _ Vb.out)
  all_goals (go_wp2_with fail)
  all_goals go_ret
  all_goals (exact ⟨rfl, by first | exact Vb.out.1.1.2.1 | exact Vb.out.1.1.2.1.drew⟩)
set_option maxRecDepth 100000 in
set_option maxHeartbeats 8000000 in
theorem verify_ok (L : List Rn) (p : Option Addr) (cap : Nat) (so D q dk o0 X F T : ByteArray) (sc sl now lo : Int) (t0 l g u f t : Nat) (k0 k1 k2 k3 : Int) (w : World) (hp : 0 < L.length) (nl : Nat) (hnl : 0 < nl) (hat : RsAt w p L) (ho0 : L[0].o = o0) (ht0 : L[0].t = (t0 : Int))
    (HS : Hid (∀ W : World, RsAt W p L → Calls Tryz.prog 22 #[.slice p nl cap] W fun r w' => r = .returned (.bool true) ∧ Below W.heap.size W w'))
    (HR : Hid (∀ W : World, Calls Tryz.prog 46 #[.agg #[.string so, .int .i64 46, .int .i64 sc, .int .i64 sl, .string D]] W fun r w' => r = .returned (.bool true) ∧ Below W.heap.size W w'))
    (HO : Hid (∀ W : World, Calls Tryz.prog 47 #[.string D] W fun r w' => r = .returned (.tuple #[.agg #[.int .i64 (t0 : Int), .int .i64 253, .int .i64 (l : Int), .int .i64 (g : Int), .int .i64 (u : Int), .int .i64 (f : Int), .int .i64 (t : Int), .string F], .string X]) ∧ Below W.heap.size W w'))
    (HK : Hid (∀ W : World, Calls Tryz.prog 48 #[.string dk] W fun r w' => r = .returned (.tuple #[.agg #[.int .i64 k0, .int .i64 k1, .int .i64 k2, .int .i64 k3], .bool true]) ∧ Below W.heap.size W w'))
    (HE : Hid (∀ W : World, Calls Tryz.prog 49 #[.string so, .string o0] W fun r w' => r = .returned (.bool true) ∧ Below W.heap.size W w'))
    (HW : Hid (∀ W : World, Calls Tryz.prog 24 #[.string o0, .string F] W fun r w' => r = .returned (.bool true) ∧ Below W.heap.size W w'))
    (HQ : Hid (∀ W : World, Calls Tryz.prog 49 #[.string q, .string F] W fun r w' => r = .returned (.bool true) ∧ Below W.heap.size W w'))
    (HT : Hid (∀ W : World, Calls Tryz.prog 26 #[.string dk] W fun r w' => r = .returned (.int .i64 (t : Int)) ∧ w' = W))
    (HL : Hid (∀ W : World, Calls Tryz.prog 25 #[.string o0] W fun r w' => r = .returned (.int .i64 lo) ∧ Below W.heap.size W w'))
    (hlo : ¬ lo < (l : Int))
    (HX : Hid (∀ W : World, RsAt W p L → Calls Tryz.prog 30 #[.agg #[.int .i64 (t0 : Int), .int .i64 253, .int .i64 (l : Int), .int .i64 (g : Int), .int .i64 (u : Int), .int .i64 (f : Int), .int .i64 (t : Int), .string F], .slice p nl cap] W fun r w' => r = .returned (.string T) ∧ Below W.heap.size W w'))
    (HI : Hid (∀ W : World, Calls Tryz.prog 50 #[.string T, .string X, .agg #[.int .i64 k0, .int .i64 k1, .int .i64 k2, .int .i64 k3]] W fun r w' => r = .returned (.bool true) ∧ Below W.heap.size W w')) (hnow : ¬ now < (f : Int)) (hlat : ¬ (u : Int) < now) :
    Calls Tryz.prog 11 #[.slice p nl cap, .agg #[.string so, .int .i64 46, .int .i64 sc, .int .i64 sl, .string D], .string q, .string dk, .int .i64 now] w fun r w' => r = .returned (.int .i64 0) ∧ Below w.heap.size w w' := by
  obtain ⟨W0, hW0⟩ : ∃ W0, w.alloc (.cells #[.string so, .int .i64 46, .int .i64 sc, .int .i64 sl, .string D] 27) = W0 := ⟨_, rfl⟩
  have V0 := hide' (Vs.start w #[.string so, .int .i64 46, .int .i64 sc, .int .i64 sl, .string D] p L hat)
  rw [hW0] at V0
  have HFI : Hid (∀ V : World, RsAt V p L → ∃ g off, p = some ⟨g, off, none⟩ ∧ V.cell? ⟨g, off, none⟩ = some (.string o0) ∧ V.cell? ⟨g, off + 1, none⟩ = some (.int .i64 (t0 : Int))) := fun V hV => by
    obtain ⟨g, off, hp2, hg, e0, e1, -⟩ := hV 0 hp
    rw [Nat.zero_mul, Nat.add_zero, ho0] at e0
    rw [Nat.zero_mul, Nat.add_zero, ht0] at e1
    exact ⟨g, off, hp2, e0, e1⟩
  obtain ⟨b0, off, hpp, -, -⟩ := HFI.out _ hat
  subst hpp
  have HF2 : Hid (∀ V : World, RsAt V (some ⟨b0, off, none⟩) L → V.cell? ⟨b0, off, none⟩ = some (.string o0) ∧ V.cell? ⟨b0, off + 1, none⟩ = some (.int .i64 (t0 : Int))) := fun V hV => by
    obtain ⟨g', off', hg, e0, e1⟩ := HFI.out V hV
    injection hg with hg; injection hg with h1 h2; subst h1; subst h2
    exact ⟨e0, e1⟩
  have hpi : ¬ (nl : Int) = 0 := by omega
  have hpj : (0 : Int) < (nl : Int) := by omega
  have HC : Hid (∀ V : World, Vs w V #[.string so, .int .i64 46, .int .i64 sc, .int .i64 sl, .string D] (some ⟨b0, off, none⟩) L → V.cell? ⟨w.heap.size, 0, none⟩ = some (.string so) ∧ V.cell? ⟨w.heap.size, 1, none⟩ = some (.int .i64 46) ∧ V.cell? ⟨w.heap.size, 2, none⟩ = some (.int .i64 sc) ∧ V.cell? ⟨w.heap.size, 3, none⟩ = some (.int .i64 sl) ∧ V.cell? ⟨w.heap.size, 4, none⟩ = some (.string D)) := fun V h => ⟨h.1.cell rfl, h.1.cell rfl, h.1.cell rfl, h.1.cell rfl, h.1.cell rfl⟩
  clear HFI hat ho0 ht0 hp
  go_enter Tryz.func11, Tryz.ntmps11
  go_wp2_with (first
    | (go_at_call 22; refine (HS.out _ V0.out.2.2).mono ?_; rintro r w1 ⟨rfl, hB⟩; have V1 := hide' (V0.out.step hB); clear hB; obtain ⟨s0, s1, s2, s3, s4⟩ := HC.out _ V1.out)
    | (go_at_call 46; refine (HR.out _).mono ?_; rintro r w2 ⟨rfl, hB⟩; have V2 := hide' (V1.out.step hB); clear hB s0 s1 s2 s3 s4; obtain ⟨s0, s1, s2, s3, s4⟩ := HC.out _ V2.out)
    | (go_at_call 47; refine (HO.out _).mono ?_; rintro r w3 ⟨rfl, hB⟩; have V3 := hide' (V2.out.step hB); have V4 := hide' (Vt.start V3.out #[.int .i64 (t0 : Int), .int .i64 253, .int .i64 (l : Int), .int .i64 (g : Int), .int .i64 (u : Int), .int .i64 (f : Int), .int .i64 (t : Int), .string F]); clear hB s0 s1 s2 s3 s4)
    | (go_at_call 48; refine (HK.out _).mono ?_; rintro r w4 ⟨rfl, hB⟩; have V5 := hide' (V4.out.step hB); have V6 := hide' (Vu.start V5.out #[.int .i64 k0, .int .i64 k1, .int .i64 k2, .int .i64 k3]); obtain ⟨e0, e1⟩ := HF2.out _ V6.out.1.1.2.2; clear hB))
  clear V0 V1 V2 V3 V4 V5
  obtain ⟨W6, hW6⟩ : ∃ W6, w4.alloc (.cells #[.int .i64 k0, .int .i64 k1, .int .i64 k2, .int .i64 k3] 23) = W6 := ⟨_, rfl⟩
  obtain ⟨Q, hQ⟩ : ∃ Q, w3.heap.size = Q := ⟨_, rfl⟩
  obtain ⟨K, hK⟩ : ∃ K, w4.heap.size = K := ⟨_, rfl⟩
  rw [hW6] at V6 e0 e1
  rw [hQ, hK] at V6
  simp only [hW6, hQ, hK]
  clear hW6 hQ hK hW0
  have QF : Hid (∀ V : World, Vu w V Q K #[.string so, .int .i64 46, .int .i64 sc, .int .i64 sl, .string D] #[.int .i64 (t0 : Int), .int .i64 253, .int .i64 (l : Int), .int .i64 (g : Int), .int .i64 (u : Int), .int .i64 (f : Int), .int .i64 (t : Int), .string F] #[.int .i64 k0, .int .i64 k1, .int .i64 k2, .int .i64 k3] (some ⟨b0, off, none⟩) L → V.cell? ⟨w.heap.size, 0, none⟩ = some (.string so) ∧ V.cell? ⟨Q, 0, none⟩ = some (.int .i64 (t0 : Int)) ∧ V.cell? ⟨Q, 1, none⟩ = some (.int .i64 253) ∧ V.cell? ⟨Q, 2, none⟩ = some (.int .i64 (l : Int)) ∧ V.cell? ⟨Q, 3, none⟩ = some (.int .i64 (g : Int)) ∧ V.cell? ⟨Q, 4, none⟩ = some (.int .i64 (u : Int)) ∧ V.cell? ⟨Q, 5, none⟩ = some (.int .i64 (f : Int)) ∧ V.cell? ⟨Q, 6, none⟩ = some (.int .i64 (t : Int)) ∧ V.cell? ⟨Q, 7, none⟩ = some (.string F) ∧ V.cell? ⟨b0, off, none⟩ = some (.string o0) ∧ V.cell? ⟨b0, off + 1, none⟩ = some (.int .i64 (t0 : Int)) ∧ V.cell? ⟨K, 0, none⟩ = some (.int .i64 k0) ∧ V.cell? ⟨K, 1, none⟩ = some (.int .i64 k1) ∧ V.cell? ⟨K, 2, none⟩ = some (.int .i64 k2) ∧ V.cell? ⟨K, 3, none⟩ = some (.int .i64 k3)) := fun V h => ⟨h.1.1.1.cell rfl, h.1.2.cell rfl, h.1.2.cell rfl, h.1.2.cell rfl, h.1.2.cell rfl, h.1.2.cell rfl, h.1.2.cell rfl, h.1.2.cell rfl, h.1.2.cell rfl, (HF2.out V h.1.1.2.2).1, (HF2.out V h.1.1.2.2).2, h.2.cell rfl, h.2.cell rfl, h.2.cell rfl, h.2.cell rfl⟩
  clear e0 e1
  obtain ⟨s0, q0, q1, q2, q3, q4, q5, q6, q7, e0, e1, y0, y1, y2, y3⟩ := QF.out _ V6.out
  go_region_held3 (fun V => V.cell? ⟨Q, 0, none⟩ = some (.int .i64 (t0 : Int)) ∧ V.cell? ⟨b0, off + 1, none⟩ = some (.int .i64 (t0 : Int))) (first | go_keep) (fail)
  have T1 : Hid True := trivial
  go_wp2_with (first
    | (go_at_call 49; have _ := T1; clear T1; refine (HE.out _).mono ?_; rintro r w7 ⟨rfl, hB⟩; have V7 := hide' (show Vu w w7 Q K #[.string so, .int .i64 46, .int .i64 sc, .int .i64 sl, .string D] #[.int .i64 (t0 : Int), .int .i64 253, .int .i64 (l : Int), .int .i64 (g : Int), .int .i64 (u : Int), .int .i64 (f : Int), .int .i64 (t : Int), .string F] #[.int .i64 k0, .int .i64 k1, .int .i64 k2, .int .i64 k3] (some ⟨b0, off, none⟩) L by first | exact V6.out.step hB | exact V6.out.drew.step hB); clear hB; clear s0 q0 q1 q2 q3 q4 q5 q6 q7 e0 e1 y0 y1 y2 y3; obtain ⟨s0, q0, q1, q2, q3, q4, q5, q6, q7, e0, e1, y0, y1, y2, y3⟩ := QF.out _ V7.out)
    | (go_at_call 24; refine (HW.out _).mono ?_; rintro r w8 ⟨rfl, hB⟩; have V8 := hide' (show Vu w w8 Q K #[.string so, .int .i64 46, .int .i64 sc, .int .i64 sl, .string D] #[.int .i64 (t0 : Int), .int .i64 253, .int .i64 (l : Int), .int .i64 (g : Int), .int .i64 (u : Int), .int .i64 (f : Int), .int .i64 (t : Int), .string F] #[.int .i64 k0, .int .i64 k1, .int .i64 k2, .int .i64 k3] (some ⟨b0, off, none⟩) L by first | exact V7.out.step hB | exact V7.out.drew.step hB); clear hB; clear s0 q0 q1 q2 q3 q4 q5 q6 q7 e0 e1 y0 y1 y2 y3; obtain ⟨s0, q0, q1, q2, q3, q4, q5, q6, q7, e0, e1, y0, y1, y2, y3⟩ := QF.out _ V8.out)
    | (go_at_call 49; refine (HQ.out _).mono ?_; rintro r w9 ⟨rfl, hB⟩; have V9 := hide' (show Vu w w9 Q K #[.string so, .int .i64 46, .int .i64 sc, .int .i64 sl, .string D] #[.int .i64 (t0 : Int), .int .i64 253, .int .i64 (l : Int), .int .i64 (g : Int), .int .i64 (u : Int), .int .i64 (f : Int), .int .i64 (t : Int), .string F] #[.int .i64 k0, .int .i64 k1, .int .i64 k2, .int .i64 k3] (some ⟨b0, off, none⟩) L by first | exact V8.out.step hB | exact V8.out.drew.step hB); clear hB; clear s0 q0 q1 q2 q3 q4 q5 q6 q7 e0 e1 y0 y1 y2 y3; obtain ⟨s0, q0, q1, q2, q3, q4, q5, q6, q7, e0, e1, y0, y1, y2, y3⟩ := QF.out _ V9.out))
  clear V6 V7 V8 HE HW HQ HO HK HR HS
  go_region_held3 (fun V => V.cell? ⟨Q, 1, none⟩ = some (.int .i64 253) ∧ V.cell? ⟨Q, 6, none⟩ = some (.int .i64 (t : Int))) (first | go_keep | exact ⟨Va.out.1.2.cell rfl, Va.out.1.2.cell rfl⟩) ((go_at_call 26; refine (HT.out _).mono ?_; rintro r wa ⟨rfl, hwa⟩; have Va := hide' (show Vu w wa Q K #[.string so, .int .i64 46, .int .i64 sc, .int .i64 sl, .string D] #[.int .i64 (t0 : Int), .int .i64 253, .int .i64 (l : Int), .int .i64 (g : Int), .int .i64 (u : Int), .int .i64 (f : Int), .int .i64 (t : Int), .string F] #[.int .i64 k0, .int .i64 k1, .int .i64 k2, .int .i64 k3] (some ⟨b0, off, none⟩) L by first | (rw [hwa]; exact V9.out) | (rw [hwa]; exact V9.out.drew)); clear hwa))
  all_goals (clear s0 q0 q1 q2 q3 q4 q5 q6 q7 e0 e1 y0 y1 y2 y3)
  all_goals (obtain ⟨s0, q0, q1, q2, q3, q4, q5, q6, q7, e0, e1, y0, y1, y2, y3⟩ := QF.out _ Va.out)
  all_goals (go_wp2_with fail)
  all_goals (go_region_held3 (fun V => V.cell? ⟨Q, 2, none⟩ = some (.int .i64 (l : Int))) (first | go_keep | exact Vb.out.1.2.cell rfl) ((go_at_call 25; refine (HL.out _).mono ?_; rintro r wb ⟨rfl, hB⟩; have Vb := hide' (show Vu w wb Q K #[.string so, .int .i64 46, .int .i64 sc, .int .i64 sl, .string D] #[.int .i64 (t0 : Int), .int .i64 253, .int .i64 (l : Int), .int .i64 (g : Int), .int .i64 (u : Int), .int .i64 (f : Int), .int .i64 (t : Int), .string F] #[.int .i64 k0, .int .i64 k1, .int .i64 k2, .int .i64 k3] (some ⟨b0, off, none⟩) L by first | exact Va.out.step hB | exact Va.out.drew.step hB); clear hB)))
  all_goals (clear s0 q0 q1 q2 q3 q4 q5 q6 q7 e0 e1 y0 y1 y2 y3)
  all_goals (obtain ⟨s0, q0, q1, q2, q3, q4, q5, q6, q7, e0, e1, y0, y1, y2, y3⟩ := QF.out _ Vb.out)
  all_goals (go_wp2_with fail)
  all_goals (have QG : Hid (∀ V : World, Vu w V Q K #[.string so, .int .i64 46, .int .i64 sc, .int .i64 sl, .string D] #[.int .i64 (t0 : Int), .int .i64 253, .int .i64 (l : Int), .int .i64 (g : Int), .int .i64 (u : Int), .int .i64 (f : Int), .int .i64 (t : Int), .string F] #[.int .i64 k0, .int .i64 k1, .int .i64 k2, .int .i64 k3] (some ⟨b0, off, none⟩) L → V.cell? ⟨Q, 0, none⟩ = some (.int .i64 (t0 : Int)) ∧ V.cell? ⟨Q, 1, none⟩ = some (.int .i64 253) ∧ V.cell? ⟨Q, 2, none⟩ = some (.int .i64 (l : Int)) ∧ V.cell? ⟨Q, 3, none⟩ = some (.int .i64 (g : Int)) ∧ V.cell? ⟨Q, 4, none⟩ = some (.int .i64 (u : Int)) ∧ V.cell? ⟨Q, 5, none⟩ = some (.int .i64 (f : Int)) ∧ V.cell? ⟨Q, 6, none⟩ = some (.int .i64 (t : Int)) ∧ V.cell? ⟨Q, 7, none⟩ = some (.string F) ∧ V.cell? ⟨K, 0, none⟩ = some (.int .i64 k0) ∧ V.cell? ⟨K, 1, none⟩ = some (.int .i64 k1) ∧ V.cell? ⟨K, 2, none⟩ = some (.int .i64 k2) ∧ V.cell? ⟨K, 3, none⟩ = some (.int .i64 k3)) := fun V h => ⟨h.1.2.cell rfl, h.1.2.cell rfl, h.1.2.cell rfl, h.1.2.cell rfl, h.1.2.cell rfl, h.1.2.cell rfl, h.1.2.cell rfl, h.1.2.cell rfl, h.2.cell rfl, h.2.cell rfl, h.2.cell rfl, h.2.cell rfl⟩)
  all_goals (go_region_held3 (fun V => V.cell? ⟨Q, 0, none⟩ = some (.int .i64 (t0 : Int)) ∧ V.cell? ⟨Q, 1, none⟩ = some (.int .i64 253) ∧ V.cell? ⟨Q, 2, none⟩ = some (.int .i64 (l : Int)) ∧ V.cell? ⟨Q, 3, none⟩ = some (.int .i64 (g : Int)) ∧ V.cell? ⟨Q, 4, none⟩ = some (.int .i64 (u : Int)) ∧ V.cell? ⟨Q, 5, none⟩ = some (.int .i64 (f : Int)) ∧ V.cell? ⟨Q, 6, none⟩ = some (.int .i64 (t : Int)) ∧ V.cell? ⟨Q, 7, none⟩ = some (.string F) ∧ V.cell? ⟨K, 0, none⟩ = some (.int .i64 k0) ∧ V.cell? ⟨K, 1, none⟩ = some (.int .i64 k1) ∧ V.cell? ⟨K, 2, none⟩ = some (.int .i64 k2) ∧ V.cell? ⟨K, 3, none⟩ = some (.int .i64 k3)) (first | go_keep | exact QG.out _ Vd.out | exact QG.out _ Vc.out) (first
    | (go_at_call 30; refine (HX.out _ (show RsAt _ _ L by first | exact Vb.out.1.1.2.2 | exact Vb.out.drew.1.1.2.2)).mono ?_; rintro r wc ⟨rfl, hB⟩; have Vc := hide' (show Vu w wc Q K #[.string so, .int .i64 46, .int .i64 sc, .int .i64 sl, .string D] #[.int .i64 (t0 : Int), .int .i64 253, .int .i64 (l : Int), .int .i64 (g : Int), .int .i64 (u : Int), .int .i64 (f : Int), .int .i64 (t : Int), .string F] #[.int .i64 k0, .int .i64 k1, .int .i64 k2, .int .i64 k3] (some ⟨b0, off, none⟩) L by first | exact Vb.out.step hB | exact Vb.out.drew.step hB); clear hB)
    | (go_at_call 50; refine (HI.out _).mono ?_; rintro r wd ⟨rfl, hB⟩; have Vd := hide' (show Vu w wd Q K #[.string so, .int .i64 46, .int .i64 sc, .int .i64 sl, .string D] #[.int .i64 (t0 : Int), .int .i64 253, .int .i64 (l : Int), .int .i64 (g : Int), .int .i64 (u : Int), .int .i64 (f : Int), .int .i64 (t : Int), .string F] #[.int .i64 k0, .int .i64 k1, .int .i64 k2, .int .i64 k3] (some ⟨b0, off, none⟩) L by first | exact Vc.out.step hB | exact Vc.out.drew.step hB); clear hB)))
  all_goals (go_wp2_with fail)
  all_goals go_ret
  all_goals (exact ⟨rfl, by first | exact Vd.out.1.1.2.1 | exact Vd.out.1.1.2.1.drew⟩)
end Go.Proofs.YtennkhdhnbdbeaaGreat

/-
  seal.Verify at what seal.Sign has made. (The verifier's own text.)
-/
namespace Go.Proofs.YtennkhdhnbdbeaaGreat
set_option linter.unusedVariables false
set_option linter.unusedSimpArgs false
open Go.RowKit Go.Shelf Go.Sort Go.Proofs.YtennkhdhnbdbeaaGreat.Nm

/-- the signature's data -/
def sgD (f : Int) (m e s t0 l0 g0 u b : Nat) (F T : ByteArray) : ByteArray := stB t0 253 l0 g0 u b (tagN (pubB f m e s)) F ++ nB (fgN (digB T) m 10 ^ s % m) 4
theorem verify_round (L : List Rn) (p : Option Addr) (cap : Nat) (so q xo F T n : ByteArray) (sl now f : Int) (m e s t0 l0 g0 u b : Nat) (w : World) (hK : KY m e s) (hf : f = 256 ∨ f = 257)
    (hL : L.length ≤ 1048576) (hat : RsAt w p L) (hz : ∀ r ∈ L, r.o.size ≤ maxLen ∧ r.d.size ≤ 9223372036854775807) (h4 : setOK L = true) (hxo : (hdR L).o = xo) (hxt : (hdR L).t = (t0 : Int)) (hxN : isN xo = true)
    (hn : isN n = true) (hF : foldB n = F) (hw : withinB xo F = true) (hq : eqB q F = true) (hqz : q.size ≤ maxLen) (hso : isN so = true) (hse : eqB so xo = true) (hsl : 0 ≤ sl) (hsl2 : sl ≤ 2147483647)
    (ht0 : 1 ≤ t0) (ht1 : t0 < 65536) (hg1 : g0 < 4294967296) (hu : u < 4294967296) (hb : b < 4294967296) (hlb : (l0 : Int) ≤ lbI xo) (hfd : ∀ d ∈ fdL L, d.length ≤ 65535)
    (hT : (⟨(txL (stB t0 253 l0 g0 u b (tagN (pubB f m e s)) F) (ahB l0 g0 xo t0) (srt (fdL L))).toArray⟩ : ByteArray) = T) (hTz : T.size ≤ 2097152) :
    Calls Tryz.prog 11 #[.slice p L.length cap, .agg #[.string so, .int .i64 46, .int .i64 1, .int .i64 sl, .string (sgD f m e s t0 l0 g0 u b F T)], .string q, .string (pubB f m e s), .int .i64 now] w fun r w' => r = .returned (.int .i64 (if now < (b : Int) ∨ (u : Int) < now then 25 else 0)) ∧ Below w.heap.size w w' := by
  have hp := setOK_pos h4
  have hx0 := hdR_eq hp
  have hl1 : l0 < 256 := by have := (lb_rng hxN).2; omega
  obtain ⟨hFN, -⟩ := isN_fold hn
  rw [hF] at hFN
  have hFz : F.size ≤ 255 := ((isN_iff F).1 hFN).1
  have hxz : xo.size ≤ 255 := ((isN_iff xo).1 hxN).1
  have hsz : so.size ≤ 255 := ((isN_iff so).1 hso).1
  have htz := tagN_lt (pubB f m e s)
  obtain ⟨kB, kf, km, ke, ks⟩ := key_round hK hf
  obtain ⟨tg, htg⟩ : ∃ tg, tagN (pubB f m e s) = tg := ⟨_, rfl⟩
  obtain ⟨PV, hPV⟩ : ∃ PV, fgN (digB T) m 10 ^ s % m = PV := ⟨_, rfl⟩
  have hNl : fgN (digB T) m 10 < m := fgN_lt _ _ (by obtain ⟨a, b, -, -, -, -, h1, -⟩ := hK; omega) 10
  have hrs := hK.rsa _ hNl
  rw [hPV] at hrs
  have hmm : 65537 ≤ m ∧ m ≤ 2147483647 ∧ e ≤ 65535 := by obtain ⟨a, b, -, -, -, -, h1, h2, -, h3, -⟩ := hK; exact ⟨h1, h2, h3⟩
  have hPl : PV < m := by rw [← hPV]; exact Nat.mod_lt _ (by omega)
  have hvP : vN (nB PV 4) 4 = PV := vN_nB (by omega)
  have hD : sgD f m e s t0 l0 g0 u b F T = stB t0 253 l0 g0 u b tg F ++ nB PV 4 := by unfold sgD; rw [htg, hPV]
  rw [hD]
  rw [htg] at hT htz
  obtain ⟨D, hDe⟩ : ∃ D, stB t0 253 l0 g0 u b tg F ++ nB PV 4 = D := ⟨_, rfl⟩
  have hX4 := nB_size PV 4
  have er := err_stamp t0 253 l0 g0 u b tg F (nB PV 4) ht0 ht1 hFN (by omega) (by omega)
  have nm := names_stamp t0 253 l0 g0 u b tg F (nB PV 4) ht0 ht1 hFN (by omega) (by omega)
  obtain ⟨v0, v1, v2, v3, v4, v5, v6, vX⟩ := nums_stamp t0 253 l0 g0 u b tg F (nB PV 4) ht1 (by omega) hl1 hg1 hu hb htz
  have hDz : (stB t0 253 l0 g0 u b tg F ++ nB PV 4).size ≤ 65535 := by unfold stB; simp only [ByteArray.size_append, nB_size]; omega
  rw [hDe] at er nm v0 v1 v2 v3 v4 v5 v6 vX hDz ⊢
  have hsN : sgN D = F := by unfold sgN; rw [nm]; rfl
  have hst : stmV D = .agg #[.int .i64 (t0 : Int), .int .i64 ((253 : Nat) : Int), .int .i64 (l0 : Int), .int .i64 (g0 : Int), .int .i64 (u : Int), .int .i64 (b : Int), .int .i64 (tg : Int), .string F] := by
    unfold stmV
    rw [v0, v1, v2, v3, v4, v5, v6, hsN, ← hF, fold_fold hn]
  have hsx : sgX D = nB PV 4 := by unfold sgX; rw [hsN]; exact vX
  have hzon : zonB so D 46 1 sl = true := by
    unfold zonB
    rw [hso, er]
    simp [hsl, hsl2]
  have HS : Hid (∀ W : World, RsAt W p L → Calls Tryz.prog 22 #[.slice p L.length cap] W fun r w' => r = .returned (.bool true) ∧ Below W.heap.size W w') := fun W h => by
    have := isSet_any L p cap W hL h hz
    rw [h4] at this; exact this
  have HR : Hid (∀ W : World, Calls Tryz.prog 46 #[.agg #[.string so, .int .i64 46, .int .i64 1, .int .i64 sl, .string D]] W fun r w' => r = .returned (.bool true) ∧ Below W.heap.size W w') := fun W => by
    have := isRecord_any so D 46 1 sl W (by unfold maxLen; omega) (by omega)
    rw [hzon] at this; exact this
  have HO : Hid (∀ W : World, Calls Tryz.prog 47 #[.string D] W fun r w' => r = .returned (.tuple #[.agg #[.int .i64 (t0 : Int), .int .i64 253, .int .i64 (l0 : Int), .int .i64 (g0 : Int), .int .i64 (u : Int), .int .i64 (b : Int), .int .i64 (tg : Int), .string F], .string (nB PV 4)]) ∧ Below W.heap.size W w') := fun W => by
    have := stampOf_any D W er
    rw [hst, hsx] at this; exact this
  have HKO : Hid (∀ W : World, Calls Tryz.prog 48 #[.string (pubB f m e s)] W fun r w' => r = .returned (.tuple #[.agg #[.int .i64 f, .int .i64 (m : Int), .int .i64 (e : Int), .int .i64 1], .bool true]) ∧ Below W.heap.size W w') := fun W => by
    have := keyOf_full (pubB f m e s) W (pub_small _ _ _ _)
    rw [kB, kf, km, ke, ks] at this; exact this
  have HE : Hid (∀ W : World, Calls Tryz.prog 49 #[.string so, .string xo] W fun r w' => r = .returned (.bool true) ∧ Below W.heap.size W w') := fun W => by
    have := equal_any so xo W (by unfold maxLen; omega) (by unfold maxLen; omega)
    rw [hse] at this; exact this
  have HW : Hid (∀ W : World, Calls Tryz.prog 24 #[.string xo, .string F] W fun r w' => r = .returned (.bool true) ∧ Below W.heap.size W w') := fun W => by
    have := within_any xo F W (by unfold maxLen; omega) (by unfold maxLen; omega)
    rw [hw] at this; exact this
  have HQ : Hid (∀ W : World, Calls Tryz.prog 49 #[.string q, .string F] W fun r w' => r = .returned (.bool true) ∧ Below W.heap.size W w') := fun W => by
    have := equal_any q F W hqz (by unfold maxLen; omega)
    rw [hq] at this; exact this
  have HT : Hid (∀ W : World, Calls Tryz.prog 26 #[.string (pubB f m e s)] W fun r w' => r = .returned (.int .i64 (tg : Int)) ∧ w' = W) := fun W => by
    have := tag_any (pubB f m e s) W (pub_small _ _ _ _)
    rw [htg] at this; exact this
  have HL : Hid (∀ W : World, Calls Tryz.prog 25 #[.string xo] W fun r w' => r = .returned (.int .i64 (lbI xo)) ∧ Below W.heap.size W w') := fun W => labelsOf_any xo W (by unfold maxLen; omega)
  have HX : Hid (∀ W : World, RsAt W p L → Calls Tryz.prog 30 #[.agg #[.int .i64 (t0 : Int), .int .i64 253, .int .i64 (l0 : Int), .int .i64 (g0 : Int), .int .i64 (u : Int), .int .i64 (b : Int), .int .i64 (tg : Int), .string F], .slice p L.length cap] W fun r w' => r = .returned (.string T) ∧ Below W.heap.size W w') := fun W h => by
    have h9 := text_any t0 253 l0 g0 u b tg F L p cap W hp hL h hz hfd (by omega) ht1 (by omega) hl1 hg1 hu hb htz t0 (by rw [hx0, hxt]) ht1 (by rw [hx0, hxo]; exact star_small _) (by rw [hx0, hxo]; exact Nat.le_trans (tailB_size _ _) (by unfold maxLen; omega)) (by rw [hx0, hxo]; exact ow_small _ _)
    rw [hx0, hxo, hT] at h9
    exact h9
  have HI : Hid (∀ W : World, Calls Tryz.prog 50 #[.string T, .string (nB PV 4), .agg #[.int .i64 f, .int .i64 (m : Int), .int .i64 (e : Int), .int .i64 1]] W fun r w' => r = .returned (.bool true) ∧ Below W.heap.size W w') := fun W => by
    have := fits_lt T (nB PV 4) f 1 m e W hTz hX4 (by omega) (by omega) (by omega) (by rw [hvP]; exact hPl)
    rw [hvP, hrs] at this
    simpa using this
  by_cases h1 : now < (b : Int)
  · rw [if_pos (.inl h1)]
    exact verify_early L p cap so D q (pubB f m e s) xo (nB PV 4) F T 1 sl now (lbI xo) t0 l0 g0 u b tg f m e 1 true w hp L.length hp hat (by rw [hx0, hxo]) (by rw [hx0, hxt]) HS HR HO HKO HE HW HQ HT HL (by omega) HX HI h1
  by_cases h2 : (u : Int) < now
  · rw [if_pos (.inr h2)]
    exact verify_late L p cap so D q (pubB f m e s) xo (nB PV 4) F T 1 sl now (lbI xo) t0 l0 g0 u b tg f m e 1 true w hp L.length hp hat (by rw [hx0, hxo]) (by rw [hx0, hxt]) HS HR HO HKO HE HW HQ HT HL (by omega) HX HI h1 h2
  · rw [if_neg (fun h => h.elim h1 h2)]
    exact verify_ok L p cap so D q (pubB f m e s) xo (nB PV 4) F T 1 sl now (lbI xo) t0 l0 g0 u b tg f m e 1 w hp L.length hp hat (by rw [hx0, hxo]) (by rw [hx0, hxt]) HS HR HO HKO HE HW HQ HT HL (by omega) HX HI h1 h2
end Go.Proofs.YtennkhdhnbdbeaaGreat
