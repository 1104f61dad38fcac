import Derived.Test.YtgekfhghambacaaGreatPc1G
/-
  Proofs: a list of NSEC, and what is found in it. (The verifier's own text.)
-/
namespace Go.Proofs.YtgekfhghambacaaGreat
set_option linter.unusedVariables false
set_option linter.unusedSimpArgs false
open Go.RowKit Go.Shelf Go.Proofs.YtgekfhghambacaaGreat.Nm

/-- an NSEC that may be used: its place, its types, its owner, the next name -/
structure Nq where
  pl : Int
  ts : ByteArray
  o : ByteArray
  nx : ByteArray
def nA (x : Nq) : Value := .agg #[.int .i64 x.pl, .string x.ts, .string x.o, .string x.nx]
def NsAt (w : World) (p : Option Addr) (L : List Nq) : Prop := ∀ k (h : k < L.length), ∃ g off, p = some ⟨g, off, none⟩ ∧ g < w.heap.size ∧ w.cell? ⟨g, off + k * 4, none⟩ = some (.int .i64 L[k].pl) ∧ w.cell? ⟨g, off + k * 4 + 1, none⟩ = some (.string L[k].ts) ∧ w.cell? ⟨g, off + k * 4 + 2, none⟩ = some (.string L[k].o) ∧ w.cell? ⟨g, off + k * 4 + 3, none⟩ = some (.string L[k].nx)
theorem NsAt.below {w w' : World} {p : Option Addr} {L : List Nq} (h : NsAt w p L) (hb : Below w.heap.size w w') : NsAt w' p L := fun k hk => by
  obtain ⟨g, off, hp, hg, h0, h1, h2, h3⟩ := h k hk
  exact ⟨g, off, hp, Nat.lt_of_lt_of_le hg hb.size, (hb.cell (p := ⟨g, off + k * 4, none⟩) hg).trans h0, (hb.cell (p := ⟨g, off + k * 4 + 1, none⟩) hg).trans h1, (hb.cell (p := ⟨g, off + k * 4 + 2, none⟩) hg).trans h2, (hb.cell (p := ⟨g, off + k * 4 + 3, none⟩) hg).trans h3⟩
/-- the place of the first that does -/
def Fx (P : Nq → Bool) (L : List Nq) (i : Int) : Prop := (i = -1 ∧ L.any P = false) ∨ ∃ k : Nat, ∃ hk : k < L.length, i = (k : Int) ∧ P L[k] = true ∧ L.any P = true ∧ ∀ j (hj : j < L.length), j < k → P L[j] = false
theorem Fx.any {P : Nq → Bool} {L : List Nq} {i : Int} (h : Fx P L i) : decide (0 ≤ i) = L.any P := by
  rcases h with ⟨rfl, h⟩ | ⟨k, hk, rfl, _, h, _⟩
  · rw [h]; decide
  · rw [h]; exact decide_eq_true (by omega)
set_option maxRecDepth 100000 in
set_option maxHeartbeats 1000000 in
/-- slices.IndexFunc, with (proof.nsecs).show$1 -/
theorem index_show (L : List Nq) (p : Option Addr) (cap : Nat) (cv0 cv1 : Value) (P : Nq → Bool) (w : World) (hL : L.length ≤ 4294967296) (hat : NsAt w p L)
    (hf : ∀ (k : Nat) (hk : k < L.length) (W : World), Below w.heap.size w W → Calls Tryz.prog 125 #[nA L[k], cv0, cv1] W fun r w' => r = .returned (.bool (P L[k])) ∧ Below W.heap.size W w') :
    Calls Tryz.prog 131 #[.slice p L.length cap, .func (Fn.func 125) #[] #[cv0, cv1]] w fun r w' => (∃ i : Int, r = .returned (.int .i64 i) ∧ Fx P L i) ∧ Below w.heap.size w w' := by
  have HF := hide' hf
  have HA := hide' hat
  clear hf hat
  go_enter Tryz.func131, Tryz.ntmps131
  go_wp2_with fail
  go_loopw [8] (fun i wr => ∃ k : Nat, i = .int .i64 (k : Int) ∧ k ≤ L.length ∧ Hid (∀ j (hj : j < L.length), j < k → P L[j] = false) ∧ Below w.heap.size w wr) (fun i _ => L.length - (intOf i).toNat)
  case atStart => exact ⟨0, rfl, Nat.zero_le _, (fun j _ h => absurd h (Nat.not_lt_zero _)), Below.refl _ _⟩
  case round =>
    obtain ⟨k, rfl, hk, HN, hBr⟩ := hrel
    have HBr := hide' hBr
    by_cases hlt : k < L.length
    · obtain ⟨g, off, rfl, hg, e0, e1, e2, e3⟩ := HA.out.below hBr k hlt
      have HC := hide' (HF.out k hlt wr hBr)
      obtain ⟨x, hx⟩ : ∃ x, L[k] = x := ⟨_, rfl⟩
      have HX := hide' hx
      rw [hx] at HC e0 e1 e2 e3
      clear hx hBr
      cases hp : P x with
      | true =>
        rw [hp] at HC
        have HP := hide' hp
        clear hp
        go_wp2_with (go_at_call 125; refine HC.out.mono ?_; rintro r w2 ⟨rfl, hB2⟩)
        go_ret
        refine ⟨⟨(k : Int), rfl, .inr ⟨k, hlt, rfl, by rw [HX.out]; exact HP.out, ?_, HN.out⟩⟩, bstep HBr.out hB2 HBr.out.size⟩
        rw [List.any_eq_true]
        exact ⟨x, HX.out ▸ List.getElem_mem hlt, HP.out⟩
      | false =>
        rw [hp] at HC
        have HP := hide' hp
        clear hp
        go_wp2_with (go_at_call 125; refine HC.out.mono ?_; rintro r w2 ⟨rfl, hB2⟩)
        refine ⟨⟨k + 1, by go_num, by omega, ?_, bstep HBr.out hB2 HBr.out.size⟩, by simp [intOf]; omega⟩
        intro j hj hjk
        rcases Nat.lt_or_ge j k with h | h
        · exact HN.out j hj h
        · obtain rfl : j = k := by omega
          rw [HX.out]; exact HP.out
    · obtain rfl : k = L.length := by omega
      go_wp2_with fail
      go_ret
      refine ⟨⟨-1, rfl, .inl ⟨rfl, ?_⟩⟩, HBr.out⟩
      rw [List.any_eq_false]
      intro x hx
      obtain ⟨j, hj, rfl⟩ := List.getElem_of_mem hx
      rw [HN.out j hj hj]; simp
set_option maxRecDepth 100000 in
set_option maxHeartbeats 1000000 in
/-- slices.ContainsFunc, with (proof.nsecs).show$1 -/
theorem contains_show (L : List Nq) (p : Option Addr) (cap : Nat) (cv0 cv1 : Value) (P : Nq → Bool) (w : World) (hL : L.length ≤ 4294967296) (hat : NsAt w p L)
    (hf : ∀ (k : Nat) (hk : k < L.length) (W : World), Below w.heap.size w W → Calls Tryz.prog 125 #[nA L[k], cv0, cv1] W fun r w' => r = .returned (.bool (P L[k])) ∧ Below W.heap.size W w') :
    Calls Tryz.prog 124 #[.slice p L.length cap, .func (Fn.func 125) #[] #[cv0, cv1]] w fun r w' => r = .returned (.bool (L.any P)) ∧ Below w.heap.size w w' := by
  have HI := hide' (index_show L p cap cv0 cv1 P w hL hat hf)
  clear hf hat
  go_enter Tryz.func124, Tryz.ntmps124
  go_wp2_with (go_at_call 131; refine HI.out.mono ?_; rintro r w1 ⟨⟨i, rfl, hi⟩, hB1⟩; have HI2 := hide' hi.any; clear hi)
  go_ret
  exact ⟨by rw [← HI2.out]; rfl, hB1⟩
set_option maxRecDepth 100000 in
set_option maxHeartbeats 1000000 in
/-- slices.IndexFunc, with (proof.nsecs).judgeStar$1 -/
theorem index_star (L : List Nq) (p : Option Addr) (cap : Nat) (cv0 : Value) (P : Nq → Bool) (w : World) (hL : L.length ≤ 4294967296) (hat : NsAt w p L)
    (hf : ∀ (k : Nat) (hk : k < L.length) (W : World), Below w.heap.size w W → Calls Tryz.prog 132 #[nA L[k], cv0] W fun r w' => r = .returned (.bool (P L[k])) ∧ Below W.heap.size W w') :
    Calls Tryz.prog 131 #[.slice p L.length cap, .func (Fn.func 132) #[] #[cv0]] w fun r w' => (∃ i : Int, r = .returned (.int .i64 i) ∧ Fx P L i) ∧ Below w.heap.size w w' := by
  have HF := hide' hf
  have HA := hide' hat
  clear hf hat
  go_enter Tryz.func131, Tryz.ntmps131
  go_wp2_with fail
  go_loopw [8] (fun i wr => ∃ k : Nat, i = .int .i64 (k : Int) ∧ k ≤ L.length ∧ Hid (∀ j (hj : j < L.length), j < k → P L[j] = false) ∧ Below w.heap.size w wr) (fun i _ => L.length - (intOf i).toNat)
  case atStart => exact ⟨0, rfl, Nat.zero_le _, (fun j _ h => absurd h (Nat.not_lt_zero _)), Below.refl _ _⟩
  case round =>
    obtain ⟨k, rfl, hk, HN, hBr⟩ := hrel
    have HBr := hide' hBr
    by_cases hlt : k < L.length
    · obtain ⟨g, off, rfl, hg, e0, e1, e2, e3⟩ := HA.out.below hBr k hlt
      have HC := hide' (HF.out k hlt wr hBr)
      obtain ⟨x, hx⟩ : ∃ x, L[k] = x := ⟨_, rfl⟩
      have HX := hide' hx
      rw [hx] at HC e0 e1 e2 e3
      clear hx hBr
      cases hp : P x with
      | true =>
        rw [hp] at HC
        have HP := hide' hp
        clear hp
        go_wp2_with (go_at_call 132; refine HC.out.mono ?_; rintro r w2 ⟨rfl, hB2⟩)
        go_ret
        refine ⟨⟨(k : Int), rfl, .inr ⟨k, hlt, rfl, by rw [HX.out]; exact HP.out, ?_, HN.out⟩⟩, bstep HBr.out hB2 HBr.out.size⟩
        rw [List.any_eq_true]
        exact ⟨x, HX.out ▸ List.getElem_mem hlt, HP.out⟩
      | false =>
        rw [hp] at HC
        have HP := hide' hp
        clear hp
        go_wp2_with (go_at_call 132; refine HC.out.mono ?_; rintro r w2 ⟨rfl, hB2⟩)
        refine ⟨⟨k + 1, by go_num, by omega, ?_, bstep HBr.out hB2 HBr.out.size⟩, by simp [intOf]; omega⟩
        intro j hj hjk
        rcases Nat.lt_or_ge j k with h | h
        · exact HN.out j hj h
        · obtain rfl : j = k := by omega
          rw [HX.out]; exact HP.out
    · obtain rfl : k = L.length := by omega
      go_wp2_with fail
      go_ret
      refine ⟨⟨-1, rfl, .inl ⟨rfl, ?_⟩⟩, HBr.out⟩
      rw [List.any_eq_false]
      intro x hx
      obtain ⟨j, hj, rfl⟩ := List.getElem_of_mem hx
      rw [HN.out j hj hj]; simp
end Go.Proofs.YtgekfhghambacaaGreat

/-
  Proofs: what a list of NSEC shows, denies, says of a star. (The verifier's own text.)
-/
namespace Go.Proofs.YtgekfhghambacaaGreat
set_option linter.unusedVariables false
set_option linter.unusedSimpArgs false
open Go.RowKit Go.Shelf Go.Proofs.YtgekfhghambacaaGreat.Nm

/-- what is small -/
def NOk (L : List Nq) : Prop := ∀ x ∈ L, x.ts.size ≤ 65535 ∧ x.o.size ≤ 255 ∧ x.nx.size ≤ 255
def shB (L : List Nq) (n : ByteArray) (t : Int) : Bool := L.any fun x => nsB x.ts x.o n t
/-- what they say of a star -/
def jsB (L : List Nq) (n : ByteArray) (t : Int) : Int := if shB L n t = true then 2 else match L.find? fun x => ndB x.ts x.o x.nx n with | none => 0 | some x => if withinB x.nx n = true then 2 else 1
theorem Fx.none {P : Nq → Bool} {L : List Nq} (h : L.any P = false) : L.find? P = none := by
  rw [List.find?_eq_none]
  intro x hx
  have := List.any_eq_false.1 h x hx
  simpa using this
theorem Fx.some {P : Nq → Bool} {L : List Nq} {k : Nat} (hk : k < L.length) (h : P L[k] = true) (hn : ∀ j (hj : j < L.length), j < k → P L[j] = false) : L.find? P = some L[k] := by
  rw [List.find?_eq_some_iff_getElem]
  exact ⟨h, k, hk, rfl, fun j hj => by rw [hn j (by omega) hj]; rfl⟩
set_option maxRecDepth 100000 in
set_option maxHeartbeats 1000000 in
theorem show1_any (x : Nq) (n : ByteArray) (t : Int) (B C : Nat) (w : World) (hs : x.ts.size ≤ 65535) (ho : x.o.size ≤ 255) (hn : n.size ≤ 1048576) (hB : w.cell? ⟨B, 0, none⟩ = some (.string n)) (hC : w.cell? ⟨C, 0, none⟩ = some (.int .i64 t)) :
    Calls Tryz.prog 125 #[nA x, .pointer (some ⟨B, 0, none⟩), .pointer (some ⟨C, 0, none⟩)] w fun r w' => r = .returned (.bool (nsB x.ts x.o n t)) ∧ Below w.heap.size w w' := by
  obtain ⟨pl, ts, o, nx⟩ := x
  change ts.size ≤ 65535 at hs
  change o.size ≤ 255 at ho
  have L0 := hide' (Nk.start w pl ts o nx)
  obtain ⟨k0, k1, k2, k3⟩ := L0.out.cells
  have HS := hide' (fun W => nshows_any pl ts o nx n t W hs (by omega) hn)
  have b1 : (w.alloc (.cells #[.int .i64 pl, .string ts, .string o, .string nx] 118)).cell? ⟨B, 0, none⟩ = some (.string n) := cell_alloc_l _ hB
  have b2 : (w.alloc (.cells #[.int .i64 pl, .string ts, .string o, .string nx] 118)).cell? ⟨C, 0, none⟩ = some (.int .i64 t) := cell_alloc_l _ hC
  clear hB hC hs ho hn
  unfold nA
  go_enter Tryz.func125, Tryz.ntmps125
  go_wp2_with (go_at_call 126; refine (HS.out _).mono ?_; rintro r w1 ⟨rfl, hB⟩; have L1 := hide' (L0.out.step hB); clear hB)
  go_ret
  exact ⟨rfl, L1.out.2⟩
set_option maxRecDepth 100000 in
set_option maxHeartbeats 1000000 in
theorem star1_any (x : Nq) (n : ByteArray) (B : Nat) (w : World) (hs : x.ts.size ≤ 65535) (ho : x.o.size ≤ 255) (hx : x.nx.size ≤ 255) (hn : n.size ≤ 1048576) (hB : w.cell? ⟨B, 0, none⟩ = some (.string n)) :
    Calls Tryz.prog 132 #[nA x, .pointer (some ⟨B, 0, none⟩)] w fun r w' => r = .returned (.bool (ndB x.ts x.o x.nx n)) ∧ Below w.heap.size w w' := by
  obtain ⟨pl, ts, o, nx⟩ := x
  change ts.size ≤ 65535 at hs
  change o.size ≤ 255 at ho
  change nx.size ≤ 255 at hx
  have L0 := hide' (Nk.start w pl ts o nx)
  obtain ⟨k0, k1, k2, k3⟩ := L0.out.cells
  have HS := hide' (fun W => ndenies_any pl ts o nx n W hs (by omega) (by omega) hn)
  have b1 : (w.alloc (.cells #[.int .i64 pl, .string ts, .string o, .string nx] 118)).cell? ⟨B, 0, none⟩ = some (.string n) := cell_alloc_l _ hB
  clear hB hs ho hn hx
  unfold nA
  go_enter Tryz.func132, Tryz.ntmps132
  go_wp2_with (go_at_call 118; refine (HS.out _).mono ?_; rintro r w1 ⟨rfl, hB⟩; have L1 := hide' (L0.out.step hB); clear hB)
  go_ret
  exact ⟨rfl, L1.out.2⟩
set_option maxRecDepth 100000 in
set_option maxHeartbeats 1000000 in
/-- nsecs.show -/
theorem show_any (L : List Nq) (p : Option Addr) (cap : Nat) (n : ByteArray) (t : Int) (w : World) (hL : L.length ≤ 1048576) (hok : NOk L) (hn : n.size ≤ 1048576) (hat : NsAt w p L) :
    Calls Tryz.prog 117 #[.slice p L.length cap, .string n, .int .i64 t] w fun r w' => r = .returned (.bool (shB L n t)) ∧ Below w.heap.size w w' := by
  obtain ⟨W1, hW1⟩ : ∃ W1, w.alloc (.cells #[.string n] 9) = W1 := ⟨_, rfl⟩
  obtain ⟨W2, hW2⟩ : ∃ W2, W1.alloc (.cells #[.int .i64 t] 3) = W2 := ⟨_, rfl⟩
  have hz : W1.heap.size = w.heap.size + 1 := by rw [← hW1, World.size_alloc]
  have hB1 : Below w.heap.size w W1 := by rw [← hW1]; exact (Below.refl _ _).alloc (Nat.le_refl _) _
  have hB2 : Below W1.heap.size W1 W2 := by rw [← hW2]; exact (Below.refl _ _).alloc (Nat.le_refl _) _
  have x1 : Bx W1 w.heap.size #[.string n] 9 := by rw [← hW1]; exact World.alloc_heap_new w _
  have x2 : Bx W2 W1.heap.size #[.int .i64 t] 3 := by rw [← hW2]; exact World.alloc_heap_new W1 _
  have y1 : Bx W2 w.heap.size #[.string n] 9 := x1.below hB2 x1.lt
  rw [hz] at x2
  have HB := hide' (bstep hB1 hB2 hB1.size)
  have hatW : NsAt W2 p L := hat.below HB.out
  have HC := hide' (contains_show L p cap (.pointer (some ⟨w.heap.size, 0, none⟩)) (.pointer (some ⟨w.heap.size + 1, 0, none⟩)) (fun x => nsB x.ts x.o n t) W2 (by omega) hatW (fun k hk W' hb => by
    obtain ⟨q1, q2, q3⟩ := hok _ (List.getElem_mem hk)
    exact show1_any L[k] n t w.heap.size (w.heap.size + 1) W' q1 q2 hn ((y1.below hb y1.lt).cell rfl) ((x2.below hb x2.lt).cell rfl)))
  have HE : Hid (shB L n t = L.any fun x => nsB x.ts x.o n t) := rfl
  rw [HE.out]
  generalize (L.any fun x => nsB x.ts x.o n t) = bb at *
  clear HE hok hn hat hatW x1 x2 y1 hB1 hB2
  go_enter Tryz.func117, Tryz.ntmps117
  go_wp2_with (go_at_call 124; refine HC.out.mono ?_; rintro r w1 ⟨rfl, hB⟩; have HB3 := hide' (bstep HB.out hB HB.out.size); clear hB)
  go_ret
  exact ⟨rfl, HB3.out⟩
end Go.Proofs.YtgekfhghambacaaGreat
