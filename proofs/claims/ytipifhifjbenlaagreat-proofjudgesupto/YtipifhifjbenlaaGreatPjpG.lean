import Derived.Test.YtipifhifjbenlaaGreatSf8
import Derived.Test.YtipifhifjbenlaaGreatRz1G
import Derived.Test.YtipifhifjbenlaaGreatPjmG
import Derived.Test.YtipifhifjbenlaaGreatFt1G
import Derived.Deep.RegionHeld3
import Derived.Deep.AppendLies
import Derived.Test.YtipifhifjbenlaaGreatPjeG
/-
  gazetteerref4.Zonal. (The verifier's own text.)
-/
namespace Go.Proofs.YtipifhifjbenlaaGreat
set_option linter.unusedVariables false
set_option linter.unusedSimpArgs false
open Go.RowKit Go.Shelf Go.Proofs.YtipifhifjbenlaaGreat.Nm

set_option maxRecDepth 100000 in
set_option maxHeartbeats 2000000 in
/-- gazetteerref4.Zonal -/
theorem zonal_any (o d : ByteArray) (t c l : Int) (w : World) (ho : o.size ≤ 1048576) (hd : d.size ≤ 9223372036854775807) :
    Calls Tryz.prog 52 #[.agg #[.string o, .int .i64 t, .int .i64 c, .int .i64 l, .string d]] w fun r w' => r = .returned (.bool (zonB o d t c l)) ∧ Below w.heap.size w w' := by
  obtain ⟨W, hW⟩ : ∃ W, w.alloc (.cells #[.string o, .int .i64 t, .int .i64 c, .int .i64 l, .string d] 32) = W := ⟨_, rfl⟩
  have HB : Hid (Below w.heap.size w W) := by rw [← hW]; exact (Below.refl _ _).alloc (Nat.le_refl _) _
  have h0 : Bx (w.alloc (.cells #[.string o, .int .i64 t, .int .i64 c, .int .i64 l, .string d] 32)) w.heap.size #[.string o, .int .i64 t, .int .i64 c, .int .i64 l, .string d] 32 := World.alloc_heap_new w _
  rw [hW] at h0
  have HH := hide' h0
  have QF : Hid (∀ V : World, Bx V w.heap.size #[.string o, .int .i64 t, .int .i64 c, .int .i64 l, .string d] 32 → V.cell? ⟨w.heap.size, 0, none⟩ = some (.string o) ∧ V.cell? ⟨w.heap.size, 1, none⟩ = some (.int .i64 t) ∧ V.cell? ⟨w.heap.size, 2, none⟩ = some (.int .i64 c) ∧ V.cell? ⟨w.heap.size, 3, none⟩ = some (.int .i64 l) ∧ V.cell? ⟨w.heap.size, 4, none⟩ = some (.string d)) := fun V h => ⟨h.cell rfl, h.cell rfl, h.cell rfl, h.cell rfl, h.cell rfl⟩
  obtain ⟨k0, k1, k2, k3, k4⟩ := QF.out W h0
  clear h0
  obtain ⟨ee, hee⟩ : ∃ ee, errD t d = ee := ⟨_, rfl⟩
  have HE := hide' hee
  cases hN : isN o with
  | false =>
    have HV : Hid (zonB o d t c l = false) := by unfold Hid zonB; rw [hN]; rfl
    have HN := hide' hN
    rw [HV.out]
    go_enter Tryz.func52, Tryz.ntmps52
    go_wp2_with (first
      | (go_at_call 50; refine (refIsName_any o _ ho).mono ?_; rw [HN.out]; rintro r w1 ⟨rfl, hB1⟩; have HH1 := hide' (HH.out.below hB1 HH.out.lt); have HB1 := hide' (bstep HB.out hB1 HB.out.size); obtain ⟨j0, j1, j2, j3, j4⟩ := QF.out w1 HH1.out; clear hB1)
      | (go_at_call 73; refine (refCheckData_any t d _ hd).mono ?_; rw [HE.out]; rintro r w2 ⟨rfl, hB2⟩; have HB2 := hide' (bstep HB1.out hB2 HB1.out.size); clear hB2))
    go_ret
    exact ⟨rfl, by first | exact HB2.out | exact HB1.out⟩
  | true =>
    have HN := hide' hN
    by_cases hc : c = 1
    · by_cases hl0 : 0 ≤ l
      · by_cases hl1 : l ≤ 2147483647
        · by_cases h0 : ee = 0
          · have HV : Hid (zonB o d t c l = true) := by unfold Hid zonB; rw [hN, decide_eq_true hc, decide_eq_true hl0, decide_eq_true hl1, decide_eq_true (hee.trans h0)]; rfl
            subst h0
            subst hc
            clear hN hee
            rw [HV.out]
            go_enter Tryz.func52, Tryz.ntmps52
            go_wp2_with (first
              | (go_at_call 50; refine (refIsName_any o _ ho).mono ?_; rw [HN.out]; rintro r w1 ⟨rfl, hB1⟩; have HH1 := hide' (HH.out.below hB1 HH.out.lt); have HB1 := hide' (bstep HB.out hB1 HB.out.size); obtain ⟨j0, j1, j2, j3, j4⟩ := QF.out w1 HH1.out; clear hB1)
              | (go_at_call 73; refine (refCheckData_any t d _ hd).mono ?_; rw [HE.out]; rintro r w2 ⟨rfl, hB2⟩; have HB2 := hide' (bstep HB1.out hB2 HB1.out.size); clear hB2))
            go_ret
            exact ⟨rfl, by first | exact HB2.out | exact HB1.out⟩
          · have HV : Hid (zonB o d t c l = false) := by unfold Hid zonB; rw [decide_eq_false (fun h => h0 (hee.symm.trans h))]; simp
            have hb : ((ee : Int) == 0) = false := by rw [beq_eq_false_iff_ne]; omega
            have hb2 : ¬ (ee : Int) = 0 := by omega
            subst hc
            clear hN hee h0
            rw [HV.out]
            go_enter Tryz.func52, Tryz.ntmps52
            go_wp2_with (first
              | (go_at_call 50; refine (refIsName_any o _ ho).mono ?_; rw [HN.out]; rintro r w1 ⟨rfl, hB1⟩; have HH1 := hide' (HH.out.below hB1 HH.out.lt); have HB1 := hide' (bstep HB.out hB1 HB.out.size); obtain ⟨j0, j1, j2, j3, j4⟩ := QF.out w1 HH1.out; clear hB1)
              | (go_at_call 73; refine (refCheckData_any t d _ hd).mono ?_; rw [HE.out]; rintro r w2 ⟨rfl, hB2⟩; have HB2 := hide' (bstep HB1.out hB2 HB1.out.size); clear hB2))
            go_ret
            exact ⟨rfl, by first | exact HB2.out | exact HB1.out⟩
        · have HV : Hid (zonB o d t c l = false) := by unfold Hid zonB; rw [decide_eq_false hl1]; simp
          subst hc
          clear hN hee
          rw [HV.out]
          go_enter Tryz.func52, Tryz.ntmps52
          go_wp2_with (first
            | (go_at_call 50; refine (refIsName_any o _ ho).mono ?_; rw [HN.out]; rintro r w1 ⟨rfl, hB1⟩; have HH1 := hide' (HH.out.below hB1 HH.out.lt); have HB1 := hide' (bstep HB.out hB1 HB.out.size); obtain ⟨j0, j1, j2, j3, j4⟩ := QF.out w1 HH1.out; clear hB1)
            | (go_at_call 73; refine (refCheckData_any t d _ hd).mono ?_; rw [HE.out]; rintro r w2 ⟨rfl, hB2⟩; have HB2 := hide' (bstep HB1.out hB2 HB1.out.size); clear hB2))
          go_ret
          exact ⟨rfl, by first | exact HB2.out | exact HB1.out⟩
      · have HV : Hid (zonB o d t c l = false) := by unfold Hid zonB; rw [decide_eq_false hl0]; simp
        subst hc
        clear hN hee
        rw [HV.out]
        go_enter Tryz.func52, Tryz.ntmps52
        go_wp2_with (first
          | (go_at_call 50; refine (refIsName_any o _ ho).mono ?_; rw [HN.out]; rintro r w1 ⟨rfl, hB1⟩; have HH1 := hide' (HH.out.below hB1 HH.out.lt); have HB1 := hide' (bstep HB.out hB1 HB.out.size); obtain ⟨j0, j1, j2, j3, j4⟩ := QF.out w1 HH1.out; clear hB1)
          | (go_at_call 73; refine (refCheckData_any t d _ hd).mono ?_; rw [HE.out]; rintro r w2 ⟨rfl, hB2⟩; have HB2 := hide' (bstep HB1.out hB2 HB1.out.size); clear hB2))
        go_ret
        exact ⟨rfl, by first | exact HB2.out | exact HB1.out⟩
    · have HV : Hid (zonB o d t c l = false) := by unfold Hid zonB; rw [decide_eq_false hc]; simp
      have hb : (c == 1) = false := by rw [beq_eq_false_iff_ne]; exact hc
      clear hN hee
      rw [HV.out]
      go_enter Tryz.func52, Tryz.ntmps52
      go_wp2_with (first
        | (go_at_call 50; refine (refIsName_any o _ ho).mono ?_; rw [HN.out]; rintro r w1 ⟨rfl, hB1⟩; have HH1 := hide' (HH.out.below hB1 HH.out.lt); have HB1 := hide' (bstep HB.out hB1 HB.out.size); obtain ⟨j0, j1, j2, j3, j4⟩ := QF.out w1 HH1.out; clear hB1)
        | (go_at_call 73; refine (refCheckData_any t d _ hd).mono ?_; rw [HE.out]; rintro r w2 ⟨rfl, hB2⟩; have HB2 := hide' (bstep HB1.out hB2 HB1.out.size); clear hB2))
      go_ret
      exact ⟨rfl, by first | exact HB2.out | exact HB1.out⟩
end Go.Proofs.YtipifhifjbenlaaGreat

/-
  Proofs: the reference's gaps in memory. (The verifier's own text.)
-/
namespace Go.Proofs.YtipifhifjbenlaaGreat
set_option linter.unusedVariables false
set_option linter.unusedSimpArgs false
open Go.RowKit Go.Shelf Go.Maps Go.Proofs.YtipifhifjbenlaaGreat.Nm

/-- a gap: the record, is it hashed, the next, its own hash, salt, rounds, types and where they lie -/
structure Gq where
  o : ByteArray
  t : Int
  c : Int
  l : Int
  d : ByteArray
  hb : Bool
  nx : ByteArray
  ow : ByteArray
  sl : ByteArray
  rd : Nat
  ty : List Nat
  p : Option Addr
  ca : Nat
def gC (x : Gq) : List Value := [.string x.o, .int .i64 x.t, .int .i64 x.c, .int .i64 x.l, .string x.d, .bool x.hb, .string x.nx, .string x.ow, .string x.sl, .int .i64 (x.rd : Int), .slice x.p x.ty.length x.ca]
def gA (x : Gq) : Value := .agg (gC x).toArray
theorem nums_set {V : World} {p : Option Addr} {ty : List Nat} (h : NumsAt V p ty) (Q j : Nat) (u : Value) (hp : ∀ g off, p = some ⟨g, off, none⟩ → Q < g) : NumsAt (V.setCell ⟨Q, j, none⟩ u) p ty := fun k hk => by
  obtain ⟨g, off, h1, h2, h3⟩ := h k hk
  have hlt := hp g off h1
  refine ⟨g, off, h1, by rw [set_size]; exact h2, ?_⟩
  rw [(grown_set V Q j u).cell_far _ (show g < V.heap.size from h2) (by intro e; injection e with e; dsimp only at e; omega)]
  exact h3
/-- what lies along Use: the record, the result, the gap, the data's parts, the types -/
structure Us (w V : World) (rc ga : Array Value) (q : Nat) (P : List ByteArray) (p : Option Addr) (ty : List Nat) : Prop where
  r : Bx V w.heap.size rc 32
  z : Bx V (w.heap.size + 1) #[.string ⟨#[]⟩, .int .i64 0, .int .i64 0, .int .i64 0, .string ⟨#[]⟩, .bool false, .string ⟨#[]⟩, .string ⟨#[]⟩, .string ⟨#[]⟩, .int .i64 0, .slice none 0 0] 43
  g : Bx V (w.heap.size + 1 + 1) ga 43
  b : Below w.heap.size w V
  ps : ∀ k (h : k < P.length), V.cell? ⟨q, k, none⟩ = some (.string P[k])
  qg : P.length = 0 ∨ (w.heap.size + 1 + 1 < q ∧ q < V.heap.size)
  n : NumsAt V p ty
  pg : ∀ g off, p = some ⟨g, off, none⟩ → w.heap.size + 1 + 1 < g
theorem Us.start (w : World) (rc ga : Array Value) : Us w (((w.alloc (.cells rc 32)).alloc (.cells #[.string ⟨#[]⟩, .int .i64 0, .int .i64 0, .int .i64 0, .string ⟨#[]⟩, .bool false, .string ⟨#[]⟩, .string ⟨#[]⟩, .string ⟨#[]⟩, .int .i64 0, .slice none 0 0] 43)).alloc (.cells ga 43)) rc ga 0 [] none [] := by
  have s1 : (w.alloc (.cells rc 32)).heap.size = w.heap.size + 1 := World.size_alloc ..
  have s2 : ((w.alloc (.cells rc 32)).alloc (.cells #[.string ⟨#[]⟩, .int .i64 0, .int .i64 0, .int .i64 0, .string ⟨#[]⟩, .bool false, .string ⟨#[]⟩, .string ⟨#[]⟩, .string ⟨#[]⟩, .int .i64 0, .slice none 0 0] 43)).heap.size = w.heap.size + 1 + 1 := by rw [World.size_alloc, s1]
  have x0 : Bx (w.alloc (.cells rc 32)) w.heap.size rc 32 := World.alloc_heap_new w _
  have x1 : Bx ((w.alloc (.cells rc 32)).alloc (.cells #[.string ⟨#[]⟩, .int .i64 0, .int .i64 0, .int .i64 0, .string ⟨#[]⟩, .bool false, .string ⟨#[]⟩, .string ⟨#[]⟩, .string ⟨#[]⟩, .int .i64 0, .slice none 0 0] 43)) (w.heap.size + 1) #[.string ⟨#[]⟩, .int .i64 0, .int .i64 0, .int .i64 0, .string ⟨#[]⟩, .bool false, .string ⟨#[]⟩, .string ⟨#[]⟩, .string ⟨#[]⟩, .int .i64 0, .slice none 0 0] 43 := by
    have h := World.alloc_heap_new (w.alloc (.cells rc 32)) (.cells #[.string ⟨#[]⟩, .int .i64 0, .int .i64 0, .int .i64 0, .string ⟨#[]⟩, .bool false, .string ⟨#[]⟩, .string ⟨#[]⟩, .string ⟨#[]⟩, .int .i64 0, .slice none 0 0] 43)
    rw [s1] at h
    exact h
  have x2 : Bx (((w.alloc (.cells rc 32)).alloc (.cells #[.string ⟨#[]⟩, .int .i64 0, .int .i64 0, .int .i64 0, .string ⟨#[]⟩, .bool false, .string ⟨#[]⟩, .string ⟨#[]⟩, .string ⟨#[]⟩, .int .i64 0, .slice none 0 0] 43)).alloc (.cells ga 43)) (w.heap.size + 1 + 1) ga 43 := by
    have h := World.alloc_heap_new ((w.alloc (.cells rc 32)).alloc (.cells #[.string ⟨#[]⟩, .int .i64 0, .int .i64 0, .int .i64 0, .string ⟨#[]⟩, .bool false, .string ⟨#[]⟩, .string ⟨#[]⟩, .string ⟨#[]⟩, .int .i64 0, .slice none 0 0] 43)) (.cells ga 43)
    rw [s2] at h
    exact h
  have b1 : Below (w.alloc (.cells rc 32)).heap.size (w.alloc (.cells rc 32)) ((w.alloc (.cells rc 32)).alloc (.cells #[.string ⟨#[]⟩, .int .i64 0, .int .i64 0, .int .i64 0, .string ⟨#[]⟩, .bool false, .string ⟨#[]⟩, .string ⟨#[]⟩, .string ⟨#[]⟩, .int .i64 0, .slice none 0 0] 43)) := (Below.refl _ _).alloc (Nat.le_refl _) _
  have b2 : Below ((w.alloc (.cells rc 32)).alloc (.cells #[.string ⟨#[]⟩, .int .i64 0, .int .i64 0, .int .i64 0, .string ⟨#[]⟩, .bool false, .string ⟨#[]⟩, .string ⟨#[]⟩, .string ⟨#[]⟩, .int .i64 0, .slice none 0 0] 43)).heap.size ((w.alloc (.cells rc 32)).alloc (.cells #[.string ⟨#[]⟩, .int .i64 0, .int .i64 0, .int .i64 0, .string ⟨#[]⟩, .bool false, .string ⟨#[]⟩, .string ⟨#[]⟩, .string ⟨#[]⟩, .int .i64 0, .slice none 0 0] 43)) (((w.alloc (.cells rc 32)).alloc (.cells #[.string ⟨#[]⟩, .int .i64 0, .int .i64 0, .int .i64 0, .string ⟨#[]⟩, .bool false, .string ⟨#[]⟩, .string ⟨#[]⟩, .string ⟨#[]⟩, .int .i64 0, .slice none 0 0] 43)).alloc (.cells ga 43)) := (Below.refl _ _).alloc (Nat.le_refl _) _
  refine ⟨(x0.below b1 x0.lt).below b2 (x0.below b1 x0.lt).lt, x1.below b2 x1.lt, x2, ?_, fun k h => absurd h (Nat.not_lt_zero _), .inl rfl, fun k h => absurd h (Nat.not_lt_zero _), fun g off h => by cases h⟩
  exact (((Below.refl _ _).alloc (Nat.le_refl _) _).alloc (by omega) _).alloc (by omega) _
theorem Us.step {w V V' : World} {rc ga : Array Value} {q : Nat} {P : List ByteArray} {p : Option Addr} {ty : List Nat} (h : Us w V rc ga q P p ty) (hB : Below V.heap.size V V') : Us w V' rc ga q P p ty := by
  refine ⟨h.r.below hB h.r.lt, h.z.below hB h.z.lt, h.g.below hB h.g.lt, bstep h.b hB h.b.size, fun k hk => ?_, ?_, h.n.below hB, h.pg⟩
  · rcases h.qg with e | e
    · omega
    · rw [hB.cell (p := ⟨q, k, none⟩) e.2]; exact h.ps k hk
  · rcases h.qg with e | e
    · exact .inl e
    · exact .inr ⟨e.1, Nat.lt_of_lt_of_le e.2 hB.size⟩
theorem Us.drew {w V : World} {rc ga : Array Value} {q : Nat} {P : List ByteArray} {p : Option Addr} {ty : List Nat} (h : Us w V rc ga q P p ty) : Us w V.drew rc ga q P p ty := ⟨h.r, h.z, h.g, h.b.drew, h.ps, h.qg, h.n, h.pg⟩
theorem Us.put {w V : World} {rc ga : Array Value} {q : Nat} {P : List ByteArray} {p : Option Addr} {ty : List Nat} (h : Us w V rc ga q P p ty) (j : Nat) (u : Value) : Us w (V.setCell ⟨w.heap.size + 1 + 1, j, none⟩ u) rc (ga.setIfInBounds j u) q P p ty := by
  refine ⟨h.r.grown (grown_set V _ j u) (by intro e; injection e with e; omega), h.z.grown (grown_set V _ j u) (by intro e; injection e with e; omega), h.g.set j u, h.b.setCell (p := ⟨w.heap.size + 1 + 1, j, none⟩) (by show w.heap.size ≤ w.heap.size + 1 + 1; omega) u, fun k hk => ?_, ?_, nums_set h.n _ j u h.pg, h.pg⟩
  · rcases h.qg with e | e
    · omega
    · rw [(grown_set V (w.heap.size + 1 + 1) j u).cell_far _ (show q < V.heap.size from e.2) (by intro e2; injection e2 with e2; dsimp only at e2; omega)]; exact h.ps k hk
  · rcases h.qg with e | e
    · exact .inl e
    · exact .inr ⟨e.1, by rw [set_size]; exact e.2⟩
theorem Us.parts {w V V' : World} {rc ga : Array Value} {q0 q c : Nat} {P0 P : List ByteArray} {p : Option Addr} {ty : List Nat} (h : Us w V rc ga q0 P0 p ty) (hB : Below V.heap.size V V') (ho : V'.ownsRow V.heap.size 9 1 (.slice (some ⟨q, 0, none⟩) P.length c) P.length (P.map Value.string)) : Us w V' rc ga q P p ty := by
  have h2 := h.step hB
  have hq : V.heap.size ≤ q ∧ q < V'.heap.size := by
    have h' := ho
    obtain ⟨_, (⟨h1, _⟩ | ⟨g, cap, cur, h1, hb, hg, _⟩)⟩ := h'
    · cases h1
    · injection h1 with h1; injection h1 with h1; injection h1 with h1; subst h1
      exact ⟨hb, (Array.getElem?_eq_some_iff.1 hg).1⟩
  have hl := h.g.lt
  refine ⟨h2.r, h2.z, h2.g, h2.b, fun k hk => ?_, .inr ⟨by omega, hq.2⟩, h2.n, h2.pg⟩
  rw [ho.cellAt k (by omega), List.getElem?_map, List.getElem?_eq_getElem hk]; rfl
theorem Us.types {w V V' : World} {rc ga : Array Value} {q : Nat} {P : List ByteArray} {p0 : Option Addr} {ty0 ty : List Nat} {v : Value} (h : Us w V rc ga q P p0 ty0) (hB : Below V.heap.size V V') (ho : V'.ownsRow V.heap.size 3 1 v ty.length (nums ty)) : ∃ p ca, v = .slice p ty.length ca ∧ Us w V' rc ga q P p ty := by
  obtain ⟨p, ca, h1, h2, _⟩ := NumsAt.of_owns ho rfl
  subst h1
  have h3 := h.step hB
  have hl := h.g.lt
  refine ⟨p, ca, rfl, h3.r, h3.z, h3.g, h3.b, h3.ps, h3.qg, h2, fun g off hp => ?_⟩
  subst hp
  obtain ⟨_, (⟨h1, _⟩ | ⟨g', cap, cur, h1, hb, hg, _⟩)⟩ := ho
  · cases h1
  · injection h1 with h1; injection h1 with h1; injection h1 with h1; subst h1
    omega
/-- the result is written -/
theorem Us.wrote {w V : World} {rc ga : Array Value} {q : Nat} {P : List ByteArray} {p : Option Addr} {ty : List Nat} (h : Us w V rc ga q P p ty) (vs : List Value) (hv : vs.length = 11) : Bx (V.setCells (w.heap.size + 1) 0 vs) (w.heap.size + 1) vs.toArray 43 ∧ Below w.heap.size w (V.setCells (w.heap.size + 1) 0 vs) ∧ NumsAt (V.setCells (w.heap.size + 1) 0 vs) p ty := by
  have h1 := bx_setCells vs [] (#[.string ⟨#[]⟩, .int .i64 0, .int .i64 0, .int .i64 0, .string ⟨#[]⟩, .bool false, .string ⟨#[]⟩, .string ⟨#[]⟩, .string ⟨#[]⟩, .int .i64 0, .slice none 0 0] : Array Value).toList [] (by simpa using hv.symm) V (by simpa using h.z)
  have h2 := grown_setCells (w.heap.size + 1) vs 0 V
  refine ⟨by simpa using h1, ?_, fun k hk => ?_⟩
  · exact h.b.grown h2 h.b.size (fun k e => by have : k = w.heap.size + 1 := by simpa using e.symm
                                               omega)
  · obtain ⟨g, off, e1, e2, e3⟩ := h.n k hk
    have := h.pg g off e1
    refine ⟨g, off, e1, Nat.lt_of_lt_of_le e2 h2.size, ?_⟩
    rw [h2.cell_far _ (show g < V.heap.size from e2) (by intro e; injection e with e; dsimp only at e; omega)]
    exact e3
end Go.Proofs.YtipifhifjbenlaaGreat

/-
  Proofs: the reference's Use, at what may not be used and at an NSEC. (The verifier's own text.)
-/
namespace Go.Proofs.YtipifhifjbenlaaGreat
set_option linter.unusedVariables false
set_option linter.unusedSimpArgs false
open Go.RowKit Go.Shelf Go.Maps Go.Proofs.YtipifhifjbenlaaGreat.Nm

/-- a gap is such an NSEC, such an NSEC3 -/
def NG (x : Gq) (y : Nq) : Prop := x.hb = false ∧ x.o = y.o ∧ x.nx = y.nx ∧ typB y.ts = some x.ty
def HG (x : Gq) (y : Hq) : Prop := x.hb = true ∧ x.nx = y.nx ∧ x.ow = y.ow ∧ x.sl = y.sl ∧ x.rd = y.rd ∧ typB y.ts = some x.ty ∧ x.o.size ≤ 1048576
/-- how Use ends -/
def UseEnd (apex : ByteArray) (i : Nat) (r : Rn) (w w' : World) (e : Ending) : Prop := ∃ x ok, e = .returned (.tuple #[gA x, .bool ok]) ∧ (ok = false → nqOf apex i r = [] ∧ hqOf apex i r = []) ∧ (ok = true → NumsAt w' x.p x.ty ∧ (∀ g off, x.p = some ⟨g, off, none⟩ → w.heap.size ≤ g) ∧ ((∃ y, nqOf apex i r = [y] ∧ hqOf apex i r = [] ∧ NG x y) ∨ ∃ y, hqOf apex i r = [y] ∧ nqOf apex i r = [] ∧ HG x y))
theorem use_no {apex : ByteArray} {i : Nat} {r : Rn} {w w' : World} (x : Gq) (h1 : nqOf apex i r = []) (h2 : hqOf apex i r = []) : UseEnd apex i r w w' (.returned (.tuple #[gA x, .bool false])) := ⟨x, false, rfl, fun _ => ⟨h1, h2⟩, fun h => by cases h⟩
set_option maxRecDepth 100000 in
set_option maxHeartbeats 4000000 in
/-- Use, at what is no such proof -/
theorem use_early (apex : ByteArray) (i : Nat) (o d : ByteArray) (t c l : Int) (w : World) (ha : apex.size ≤ 1048576) (ho : o.size ≤ 1048576) (hd : d.size ≤ 9223372036854775807) (h : ¬ (rgB apex ⟨o, t, c, l, d⟩ = true ∧ (t = 47 ∨ t = 50))) :
    Calls Tryz.prog 34 #[.string apex, .agg #[.string o, .int .i64 t, .int .i64 c, .int .i64 l, .string d]] w fun e w' => UseEnd apex i ⟨o, t, c, l, d⟩ w w' e ∧ Below w.heap.size w w' := by
  have HNO : Hid (nqOf apex i ⟨o, t, c, l, d⟩ = [] ∧ hqOf apex i ⟨o, t, c, l, d⟩ = []) := by
    constructor
    · unfold nqOf; rw [if_neg (fun e => h ⟨e.2.1, .inl e.1⟩)]
    · unfold hqOf; rw [if_neg (fun e => h ⟨e.2.1, .inr e.1⟩)]
  have HR : rgB apex ⟨o, t, c, l, d⟩ = (withinB o apex && zonB o d t c l) := rfl
  rw [HR] at h
  have HZ := hide' (fun W => zonal_any o d t c l W ho hd)
  have HW := hide' (fun W => refWithin_any o apex W ho ha)
  obtain ⟨W0, hW0⟩ : ∃ W0, ((w.alloc (.cells #[.string o, .int .i64 t, .int .i64 c, .int .i64 l, .string d] 32)).alloc (.cells #[.string ⟨#[]⟩, .int .i64 0, .int .i64 0, .int .i64 0, .string ⟨#[]⟩, .bool false, .string ⟨#[]⟩, .string ⟨#[]⟩, .string ⟨#[]⟩, .int .i64 0, .slice none 0 0] 43)).alloc (.cells #[.string o, .int .i64 t, .int .i64 c, .int .i64 l, .string d, .bool false, .string ⟨#[]⟩, .string ⟨#[]⟩, .string ⟨#[]⟩, .int .i64 0, .slice none 0 0] 43) = W0 := ⟨_, rfl⟩
  have S0 : Hid (Us w W0 #[.string o, .int .i64 t, .int .i64 c, .int .i64 l, .string d] #[.string o, .int .i64 t, .int .i64 c, .int .i64 l, .string d, .bool false, .string ⟨#[]⟩, .string ⟨#[]⟩, .string ⟨#[]⟩, .int .i64 0, .slice none 0 0] 0 [] none []) := by rw [← hW0]; exact Us.start w _ _
  have HW0 := hide' hW0
  clear hW0
  generalize zonB o d t c l = b1 at *
  generalize withinB o apex = b2 at *
  clear HR
  cases b1 with
  | false =>
    clear h
    go_enter Tryz.func34, Tryz.ntmps34
    go_wp2_with (first
      | (go_at_call 52; refine (HZ.out _).mono ?_; rintro r w1 ⟨rfl, hB⟩; rw [HW0.out] at hB; have S1 := hide' (S0.out.step hB); clear hB; have r0 := S1.out.r.cell (j := 0) rfl; have r1 := S1.out.r.cell (j := 1) rfl; have r2 := S1.out.r.cell (j := 2) rfl; have r3 := S1.out.r.cell (j := 3) rfl; have r4 := S1.out.r.cell (j := 4) rfl; have g0 := S1.out.g.cell (j := 0) rfl; have g1 := S1.out.g.cell (j := 1) rfl; have g2 := S1.out.g.cell (j := 2) rfl; have g3 := S1.out.g.cell (j := 3) rfl; have g4 := S1.out.g.cell (j := 4) rfl; have g5 := S1.out.g.cell (j := 5) rfl; have g6 := S1.out.g.cell (j := 6) rfl; have g7 := S1.out.g.cell (j := 7) rfl; have g8 := S1.out.g.cell (j := 8) rfl; have g9 := S1.out.g.cell (j := 9) rfl; have g10 := S1.out.g.cell (j := 10) rfl; have f0 := S1.out.g.free 0; have f1 := S1.out.g.free 1; have f2 := S1.out.g.free 2; have f3 := S1.out.g.free 3; have f4 := S1.out.g.free 4; have f5 := S1.out.g.free 5; have f6 := S1.out.g.free 6; have f7 := S1.out.g.free 7; have f8 := S1.out.g.free 8; have f9 := S1.out.g.free 9; have f10 := S1.out.g.free 10; have z0 := S1.out.z.cell (j := 0) rfl; have z1 := S1.out.z.cell (j := 1) rfl; have z2 := S1.out.z.cell (j := 2) rfl; have z3 := S1.out.z.cell (j := 3) rfl; have z4 := S1.out.z.cell (j := 4) rfl; have z5 := S1.out.z.cell (j := 5) rfl; have z6 := S1.out.z.cell (j := 6) rfl; have z7 := S1.out.z.cell (j := 7) rfl; have z8 := S1.out.z.cell (j := 8) rfl; have z9 := S1.out.z.cell (j := 9) rfl; have z10 := S1.out.z.cell (j := 10) rfl; have y0 := S1.out.z.free 0; have y1 := S1.out.z.free 1; have y2 := S1.out.z.free 2; have y3 := S1.out.z.free 3; have y4 := S1.out.z.free 4; have y5 := S1.out.z.free 5; have y6 := S1.out.z.free 6; have y7 := S1.out.z.free 7; have y8 := S1.out.z.free 8; have y9 := S1.out.z.free 9; have y10 := S1.out.z.free 10; obtain ⟨V9, hV9⟩ : ∃ V9, (World.setCell (World.setCell (World.setCell (World.setCell (World.setCell (World.setCell (World.setCell (World.setCell (World.setCell (World.setCell (World.setCell w1 ⟨w.heap.size + 1, 0, none⟩ (.string o)) ⟨w.heap.size + 1, 1, none⟩ (.int .i64 t)) ⟨w.heap.size + 1, 2, none⟩ (.int .i64 c)) ⟨w.heap.size + 1, 3, none⟩ (.int .i64 l)) ⟨w.heap.size + 1, 4, none⟩ (.string d)) ⟨w.heap.size + 1, 5, none⟩ (.bool false)) ⟨w.heap.size + 1, 6, none⟩ (.string ⟨#[]⟩)) ⟨w.heap.size + 1, 7, none⟩ (.string ⟨#[]⟩)) ⟨w.heap.size + 1, 8, none⟩ (.string ⟨#[]⟩)) ⟨w.heap.size + 1, 9, none⟩ (.int .i64 0)) ⟨w.heap.size + 1, 10, none⟩ (.slice none 0 0)) = V9 := ⟨_, rfl⟩; have W9 : Bx V9 (w.heap.size + 1) #[.string o, .int .i64 t, .int .i64 c, .int .i64 l, .string d, .bool false, .string ⟨#[]⟩, .string ⟨#[]⟩, .string ⟨#[]⟩, .int .i64 0, .slice none 0 0] 43 ∧ Below w.heap.size w V9 ∧ NumsAt V9 none [] := (by rw [← hV9]; exact S1.out.wrote [.string o, .int .i64 t, .int .i64 c, .int .i64 l, .string d, .bool false, .string ⟨#[]⟩, .string ⟨#[]⟩, .string ⟨#[]⟩, .int .i64 0, .slice none 0 0] rfl); have q0 := W9.1.cell (j := 0) rfl; have q1 := W9.1.cell (j := 1) rfl; have q2 := W9.1.cell (j := 2) rfl; have q3 := W9.1.cell (j := 3) rfl; have q4 := W9.1.cell (j := 4) rfl; have q5 := W9.1.cell (j := 5) rfl; have q6 := W9.1.cell (j := 6) rfl; have q7 := W9.1.cell (j := 7) rfl; have q8 := W9.1.cell (j := 8) rfl; have q9 := W9.1.cell (j := 9) rfl; have q10 := W9.1.cell (j := 10) rfl; have HW9 := hide' W9; clear W9))
    change bodyPost _ _ _ _ _ _
    refine bodyPost_ret (v := .tuple #[.agg #[.string o, .int .i64 t, .int .i64 c, .int .i64 l, .string d, .bool false, .string ⟨#[]⟩, .string ⟨#[]⟩, .string ⟨#[]⟩, .int .i64 0, .slice none 0 0], .bool false]) (by simp [results, go_sem, q0, q1, q2, q3, q4, q5, q6, q7, q8, q9, q10]) rfl ?_
    exact ⟨use_no ⟨o, t, c, l, d, false, ⟨#[]⟩, ⟨#[]⟩, ⟨#[]⟩, 0, [], none, 0⟩ HNO.out.1 HNO.out.2, HW9.out.2.1⟩
  | true =>
    cases b2 with
    | false =>
      clear h
      go_enter Tryz.func34, Tryz.ntmps34
      go_wp2_with (first
        | (go_at_call 52; refine (HZ.out _).mono ?_; rintro r w1 ⟨rfl, hB⟩; rw [HW0.out] at hB; have S1 := hide' (S0.out.step hB); clear hB; have r0 := S1.out.r.cell (j := 0) rfl; have r1 := S1.out.r.cell (j := 1) rfl; have r2 := S1.out.r.cell (j := 2) rfl; have r3 := S1.out.r.cell (j := 3) rfl; have r4 := S1.out.r.cell (j := 4) rfl; have g0 := S1.out.g.cell (j := 0) rfl; have g1 := S1.out.g.cell (j := 1) rfl; have g2 := S1.out.g.cell (j := 2) rfl; have g3 := S1.out.g.cell (j := 3) rfl; have g4 := S1.out.g.cell (j := 4) rfl; have g5 := S1.out.g.cell (j := 5) rfl; have g6 := S1.out.g.cell (j := 6) rfl; have g7 := S1.out.g.cell (j := 7) rfl; have g8 := S1.out.g.cell (j := 8) rfl; have g9 := S1.out.g.cell (j := 9) rfl; have g10 := S1.out.g.cell (j := 10) rfl; have f0 := S1.out.g.free 0; have f1 := S1.out.g.free 1; have f2 := S1.out.g.free 2; have f3 := S1.out.g.free 3; have f4 := S1.out.g.free 4; have f5 := S1.out.g.free 5; have f6 := S1.out.g.free 6; have f7 := S1.out.g.free 7; have f8 := S1.out.g.free 8; have f9 := S1.out.g.free 9; have f10 := S1.out.g.free 10)
        | (go_at_call 13; (with_reducible refine (HW.out _).mono ?_); rintro r w2 ⟨rfl, hB⟩; have S2 := hide' (S1.out.step hB); clear hB; clear r0 r1 r2 r3 r4 g0 g1 g2 g3 g4 g5 g6 g7 g8 g9 g10 f0 f1 f2 f3 f4 f5 f6 f7 f8 f9 f10; have r0 := S2.out.r.cell (j := 0) rfl; have r1 := S2.out.r.cell (j := 1) rfl; have r2 := S2.out.r.cell (j := 2) rfl; have r3 := S2.out.r.cell (j := 3) rfl; have r4 := S2.out.r.cell (j := 4) rfl; have g0 := S2.out.g.cell (j := 0) rfl; have g1 := S2.out.g.cell (j := 1) rfl; have g2 := S2.out.g.cell (j := 2) rfl; have g3 := S2.out.g.cell (j := 3) rfl; have g4 := S2.out.g.cell (j := 4) rfl; have g5 := S2.out.g.cell (j := 5) rfl; have g6 := S2.out.g.cell (j := 6) rfl; have g7 := S2.out.g.cell (j := 7) rfl; have g8 := S2.out.g.cell (j := 8) rfl; have g9 := S2.out.g.cell (j := 9) rfl; have g10 := S2.out.g.cell (j := 10) rfl; have f0 := S2.out.g.free 0; have f1 := S2.out.g.free 1; have f2 := S2.out.g.free 2; have f3 := S2.out.g.free 3; have f4 := S2.out.g.free 4; have f5 := S2.out.g.free 5; have f6 := S2.out.g.free 6; have f7 := S2.out.g.free 7; have f8 := S2.out.g.free 8; have f9 := S2.out.g.free 9; have f10 := S2.out.g.free 10; have z0 := S2.out.z.cell (j := 0) rfl; have z1 := S2.out.z.cell (j := 1) rfl; have z2 := S2.out.z.cell (j := 2) rfl; have z3 := S2.out.z.cell (j := 3) rfl; have z4 := S2.out.z.cell (j := 4) rfl; have z5 := S2.out.z.cell (j := 5) rfl; have z6 := S2.out.z.cell (j := 6) rfl; have z7 := S2.out.z.cell (j := 7) rfl; have z8 := S2.out.z.cell (j := 8) rfl; have z9 := S2.out.z.cell (j := 9) rfl; have z10 := S2.out.z.cell (j := 10) rfl; have y0 := S2.out.z.free 0; have y1 := S2.out.z.free 1; have y2 := S2.out.z.free 2; have y3 := S2.out.z.free 3; have y4 := S2.out.z.free 4; have y5 := S2.out.z.free 5; have y6 := S2.out.z.free 6; have y7 := S2.out.z.free 7; have y8 := S2.out.z.free 8; have y9 := S2.out.z.free 9; have y10 := S2.out.z.free 10; obtain ⟨V9, hV9⟩ : ∃ V9, (World.setCell (World.setCell (World.setCell (World.setCell (World.setCell (World.setCell (World.setCell (World.setCell (World.setCell (World.setCell (World.setCell w2 ⟨w.heap.size + 1, 0, none⟩ (.string o)) ⟨w.heap.size + 1, 1, none⟩ (.int .i64 t)) ⟨w.heap.size + 1, 2, none⟩ (.int .i64 c)) ⟨w.heap.size + 1, 3, none⟩ (.int .i64 l)) ⟨w.heap.size + 1, 4, none⟩ (.string d)) ⟨w.heap.size + 1, 5, none⟩ (.bool false)) ⟨w.heap.size + 1, 6, none⟩ (.string ⟨#[]⟩)) ⟨w.heap.size + 1, 7, none⟩ (.string ⟨#[]⟩)) ⟨w.heap.size + 1, 8, none⟩ (.string ⟨#[]⟩)) ⟨w.heap.size + 1, 9, none⟩ (.int .i64 0)) ⟨w.heap.size + 1, 10, none⟩ (.slice none 0 0)) = V9 := ⟨_, rfl⟩; have W9 : Bx V9 (w.heap.size + 1) #[.string o, .int .i64 t, .int .i64 c, .int .i64 l, .string d, .bool false, .string ⟨#[]⟩, .string ⟨#[]⟩, .string ⟨#[]⟩, .int .i64 0, .slice none 0 0] 43 ∧ Below w.heap.size w V9 ∧ NumsAt V9 none [] := (by rw [← hV9]; exact S2.out.wrote [.string o, .int .i64 t, .int .i64 c, .int .i64 l, .string d, .bool false, .string ⟨#[]⟩, .string ⟨#[]⟩, .string ⟨#[]⟩, .int .i64 0, .slice none 0 0] rfl); have q0 := W9.1.cell (j := 0) rfl; have q1 := W9.1.cell (j := 1) rfl; have q2 := W9.1.cell (j := 2) rfl; have q3 := W9.1.cell (j := 3) rfl; have q4 := W9.1.cell (j := 4) rfl; have q5 := W9.1.cell (j := 5) rfl; have q6 := W9.1.cell (j := 6) rfl; have q7 := W9.1.cell (j := 7) rfl; have q8 := W9.1.cell (j := 8) rfl; have q9 := W9.1.cell (j := 9) rfl; have q10 := W9.1.cell (j := 10) rfl; have HW9 := hide' W9; clear W9))
      change bodyPost _ _ _ _ _ _
      refine bodyPost_ret (v := .tuple #[.agg #[.string o, .int .i64 t, .int .i64 c, .int .i64 l, .string d, .bool false, .string ⟨#[]⟩, .string ⟨#[]⟩, .string ⟨#[]⟩, .int .i64 0, .slice none 0 0], .bool false]) (by simp [results, go_sem, q0, q1, q2, q3, q4, q5, q6, q7, q8, q9, q10]) rfl ?_
      exact ⟨use_no ⟨o, t, c, l, d, false, ⟨#[]⟩, ⟨#[]⟩, ⟨#[]⟩, 0, [], none, 0⟩ HNO.out.1 HNO.out.2, HW9.out.2.1⟩
    | true =>
      have h47 : ¬ t = 47 := fun e => h ⟨rfl, .inl e⟩
      have h50 : ¬ t = 50 := fun e => h ⟨rfl, .inr e⟩
      have e47 : (t != 47) = true := bne_iff_ne.2 h47
      have e50 : (t != 50) = true := bne_iff_ne.2 h50
      clear h
      go_enter Tryz.func34, Tryz.ntmps34
      go_wp2_with (first
        | (go_at_call 52; refine (HZ.out _).mono ?_; rintro r w1 ⟨rfl, hB⟩; rw [HW0.out] at hB; have S1 := hide' (S0.out.step hB); clear hB; have r0 := S1.out.r.cell (j := 0) rfl; have r1 := S1.out.r.cell (j := 1) rfl; have r2 := S1.out.r.cell (j := 2) rfl; have r3 := S1.out.r.cell (j := 3) rfl; have r4 := S1.out.r.cell (j := 4) rfl; have g0 := S1.out.g.cell (j := 0) rfl; have g1 := S1.out.g.cell (j := 1) rfl; have g2 := S1.out.g.cell (j := 2) rfl; have g3 := S1.out.g.cell (j := 3) rfl; have g4 := S1.out.g.cell (j := 4) rfl; have g5 := S1.out.g.cell (j := 5) rfl; have g6 := S1.out.g.cell (j := 6) rfl; have g7 := S1.out.g.cell (j := 7) rfl; have g8 := S1.out.g.cell (j := 8) rfl; have g9 := S1.out.g.cell (j := 9) rfl; have g10 := S1.out.g.cell (j := 10) rfl; have f0 := S1.out.g.free 0; have f1 := S1.out.g.free 1; have f2 := S1.out.g.free 2; have f3 := S1.out.g.free 3; have f4 := S1.out.g.free 4; have f5 := S1.out.g.free 5; have f6 := S1.out.g.free 6; have f7 := S1.out.g.free 7; have f8 := S1.out.g.free 8; have f9 := S1.out.g.free 9; have f10 := S1.out.g.free 10)
        | (go_at_call 13; (with_reducible refine (HW.out _).mono ?_); rintro r w2 ⟨rfl, hB⟩; have S2 := hide' (S1.out.step hB); clear hB; clear r0 r1 r2 r3 r4 g0 g1 g2 g3 g4 g5 g6 g7 g8 g9 g10 f0 f1 f2 f3 f4 f5 f6 f7 f8 f9 f10; have r0 := S2.out.r.cell (j := 0) rfl; have r1 := S2.out.r.cell (j := 1) rfl; have r2 := S2.out.r.cell (j := 2) rfl; have r3 := S2.out.r.cell (j := 3) rfl; have r4 := S2.out.r.cell (j := 4) rfl; have g0 := S2.out.g.cell (j := 0) rfl; have g1 := S2.out.g.cell (j := 1) rfl; have g2 := S2.out.g.cell (j := 2) rfl; have g3 := S2.out.g.cell (j := 3) rfl; have g4 := S2.out.g.cell (j := 4) rfl; have g5 := S2.out.g.cell (j := 5) rfl; have g6 := S2.out.g.cell (j := 6) rfl; have g7 := S2.out.g.cell (j := 7) rfl; have g8 := S2.out.g.cell (j := 8) rfl; have g9 := S2.out.g.cell (j := 9) rfl; have g10 := S2.out.g.cell (j := 10) rfl; have f0 := S2.out.g.free 0; have f1 := S2.out.g.free 1; have f2 := S2.out.g.free 2; have f3 := S2.out.g.free 3; have f4 := S2.out.g.free 4; have f5 := S2.out.g.free 5; have f6 := S2.out.g.free 6; have f7 := S2.out.g.free 7; have f8 := S2.out.g.free 8; have f9 := S2.out.g.free 9; have f10 := S2.out.g.free 10; have z0 := S2.out.z.cell (j := 0) rfl; have z1 := S2.out.z.cell (j := 1) rfl; have z2 := S2.out.z.cell (j := 2) rfl; have z3 := S2.out.z.cell (j := 3) rfl; have z4 := S2.out.z.cell (j := 4) rfl; have z5 := S2.out.z.cell (j := 5) rfl; have z6 := S2.out.z.cell (j := 6) rfl; have z7 := S2.out.z.cell (j := 7) rfl; have z8 := S2.out.z.cell (j := 8) rfl; have z9 := S2.out.z.cell (j := 9) rfl; have z10 := S2.out.z.cell (j := 10) rfl; have y0 := S2.out.z.free 0; have y1 := S2.out.z.free 1; have y2 := S2.out.z.free 2; have y3 := S2.out.z.free 3; have y4 := S2.out.z.free 4; have y5 := S2.out.z.free 5; have y6 := S2.out.z.free 6; have y7 := S2.out.z.free 7; have y8 := S2.out.z.free 8; have y9 := S2.out.z.free 9; have y10 := S2.out.z.free 10; obtain ⟨V9, hV9⟩ : ∃ V9, (World.setCell (World.setCell (World.setCell (World.setCell (World.setCell (World.setCell (World.setCell (World.setCell (World.setCell (World.setCell (World.setCell w2 ⟨w.heap.size + 1, 0, none⟩ (.string o)) ⟨w.heap.size + 1, 1, none⟩ (.int .i64 t)) ⟨w.heap.size + 1, 2, none⟩ (.int .i64 c)) ⟨w.heap.size + 1, 3, none⟩ (.int .i64 l)) ⟨w.heap.size + 1, 4, none⟩ (.string d)) ⟨w.heap.size + 1, 5, none⟩ (.bool false)) ⟨w.heap.size + 1, 6, none⟩ (.string ⟨#[]⟩)) ⟨w.heap.size + 1, 7, none⟩ (.string ⟨#[]⟩)) ⟨w.heap.size + 1, 8, none⟩ (.string ⟨#[]⟩)) ⟨w.heap.size + 1, 9, none⟩ (.int .i64 0)) ⟨w.heap.size + 1, 10, none⟩ (.slice none 0 0)) = V9 := ⟨_, rfl⟩; have W9 : Bx V9 (w.heap.size + 1) #[.string o, .int .i64 t, .int .i64 c, .int .i64 l, .string d, .bool false, .string ⟨#[]⟩, .string ⟨#[]⟩, .string ⟨#[]⟩, .int .i64 0, .slice none 0 0] 43 ∧ Below w.heap.size w V9 ∧ NumsAt V9 none [] := (by rw [← hV9]; exact S2.out.wrote [.string o, .int .i64 t, .int .i64 c, .int .i64 l, .string d, .bool false, .string ⟨#[]⟩, .string ⟨#[]⟩, .string ⟨#[]⟩, .int .i64 0, .slice none 0 0] rfl); have q0 := W9.1.cell (j := 0) rfl; have q1 := W9.1.cell (j := 1) rfl; have q2 := W9.1.cell (j := 2) rfl; have q3 := W9.1.cell (j := 3) rfl; have q4 := W9.1.cell (j := 4) rfl; have q5 := W9.1.cell (j := 5) rfl; have q6 := W9.1.cell (j := 6) rfl; have q7 := W9.1.cell (j := 7) rfl; have q8 := W9.1.cell (j := 8) rfl; have q9 := W9.1.cell (j := 9) rfl; have q10 := W9.1.cell (j := 10) rfl; have HW9 := hide' W9; clear W9))
      change bodyPost _ _ _ _ _ _
      refine bodyPost_ret (v := .tuple #[.agg #[.string o, .int .i64 t, .int .i64 c, .int .i64 l, .string d, .bool false, .string ⟨#[]⟩, .string ⟨#[]⟩, .string ⟨#[]⟩, .int .i64 0, .slice none 0 0], .bool false]) (by simp [results, go_sem, q0, q1, q2, q3, q4, q5, q6, q7, q8, q9, q10]) rfl ?_
      exact ⟨use_no ⟨o, t, c, l, d, false, ⟨#[]⟩, ⟨#[]⟩, ⟨#[]⟩, 0, [], none, 0⟩ HNO.out.1 HNO.out.2, HW9.out.2.1⟩
end Go.Proofs.YtipifhifjbenlaaGreat
