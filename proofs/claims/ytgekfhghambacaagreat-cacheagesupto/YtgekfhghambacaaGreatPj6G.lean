import Derived.Test.YtgekfhghambacaaGreatPj4G
import Derived.Test.YtgekfhghambacaaGreatCmpG
import Derived.Test.YtgekfhghambacaaGreatPrWG
/-
  Proofs: what a list of NSEC says of a star. (The verifier's own text.)
-/
namespace Go.Proofs.YtgekfhghambacaaGreat
set_option linter.unusedVariables false
set_option linter.unusedSimpArgs false
open Go.RowKit Go.Shelf Go.Proofs.YtgekfhghambacaaGreat.Nm

set_option maxRecDepth 100000 in
set_option maxHeartbeats 1000000 in
/-- slices.Index of texts: found or not -/
theorem indexS_any (l : List ByteArray) (p : Option Addr) (cap : Nat) (t : ByteArray) (w : World) (hl : l.length ≤ 1048576) (hat : StrsAt w p l) :
    Calls Tryz.prog 130 #[.slice p l.length cap, .string t] w fun r w' => (∃ i : Int, r = .returned (.int .i64 i) ∧ decide (0 ≤ i) = l.any fun k => t.toList == k.toList) ∧ w' = w := by
  have HA := hide' hat
  clear hat
  go_enter Tryz.func130, Tryz.ntmps130
  go_wp2_with fail
  go_loop [8] (fun i => ∃ k : Nat, i = .int .i64 (k : Int) ∧ k ≤ l.length ∧ Hid (∀ j (hj : j < l.length), j < k → ¬ t.toList = l[j].toList)) (fun i => l.length - (intOf i).toNat)
  case atStart => exact ⟨0, rfl, Nat.zero_le _, fun j _ h => absurd h (Nat.not_lt_zero _)⟩
  case round =>
    obtain ⟨k, rfl, hk, HN⟩ := hrel
    by_cases hlt : k < l.length
    · obtain ⟨g, off, rfl, hg, e0⟩ := HA.out k hlt
      obtain ⟨x, hx⟩ : ∃ x, l[k] = x := ⟨_, rfl⟩
      have HX := hide' hx
      rw [hx] at e0
      clear hx
      by_cases ht : t.toList = x.toList
      · have HE : Hid ((l.any fun k => t.toList == k.toList) = true) := List.any_eq_true.2 ⟨x, HX.out ▸ List.getElem_mem hlt, beq_iff_eq.2 ht⟩
        go_wp2_with fail
        go_ret
        exact ⟨⟨(k : Int), rfl, by rw [← ht, HE.out]; exact decide_eq_true (by omega)⟩, rfl⟩
      · have hbe : (t.toList == x.toList) = false := beq_eq_false_iff_ne.2 ht
        go_wp2_with fail
        exact ⟨⟨k + 1, by go_num, by omega, fun j hj h => by
          rcases Nat.lt_succ_iff_lt_or_eq.1 h with h | rfl
          · exact HN.out j hj h
          · rw [HX.out]; exact ht⟩, by simp [intOf]; omega⟩
    · obtain rfl : k = l.length := by omega
      have HE : Hid ((l.any fun k => t.toList == k.toList) = false) := by
        refine List.any_eq_false.2 (fun x hx => ?_)
        obtain ⟨j, hj, rfl⟩ := List.getElem_of_mem hx
        simpa using HN.out j hj hj
      go_wp2_with fail
      go_ret
      exact ⟨⟨-1, rfl, by rw [HE.out]; decide⟩, rfl⟩
set_option maxRecDepth 100000 in
set_option maxHeartbeats 1000000 in
/-- slices.Contains of texts -/
theorem containsS_any (l : List ByteArray) (p : Option Addr) (cap : Nat) (t : ByteArray) (w : World) (hl : l.length ≤ 1048576) (hat : StrsAt w p l) :
    Calls Tryz.prog 122 #[.slice p l.length cap, .string t] w fun r w' => r = .returned (.bool (l.any fun k => t.toList == k.toList)) ∧ w' = w := by
  have HI := hide' (indexS_any l p cap t w hl hat)
  clear hat
  go_enter Tryz.func122, Tryz.ntmps122
  go_wp2_with (go_at_call 130; refine HI.out.mono ?_; rintro r w1 ⟨⟨i, rfl, hi⟩, rfl⟩)
  go_ret
  exact ⟨by rw [← hi]; rfl, rfl⟩
/-- what lies in memory along judgeStar -/
def Jk (w wc : World) (n : ByteArray) (p : Option Addr) (L : List Nq) : Prop := Bx wc w.heap.size #[.string n] 9 ∧ Below w.heap.size w wc ∧ NsAt wc p L
theorem Jk.step {w wc wd : World} {n : ByteArray} {p : Option Addr} {L : List Nq} (h : Jk w wc n p L) (hB : Below wc.heap.size wc wd) : Jk w wd n p L := ⟨h.1.below hB h.1.lt, bstep h.2.1 hB h.2.1.size, h.2.2.below hB⟩
theorem Jk.drew {w wc : World} {n : ByteArray} {p : Option Addr} {L : List Nq} (h : Jk w wc n p L) : Jk w wc.drew n p L := ⟨h.1, h.2.1.drew, h.2.2⟩
theorem Jk.start (w : World) (n : ByteArray) (p : Option Addr) (L : List Nq) (h : NsAt w p L) : Jk w (w.alloc (.cells #[.string n] 9)) n p L := ⟨World.alloc_heap_new w _, (Below.refl _ _).alloc (Nat.le_refl _) _, h.below ((Below.refl _ _).alloc (Nat.le_refl _) _)⟩
set_option maxRecDepth 100000 in
set_option maxHeartbeats 2000000 in
/-- nsecs.judgeStar -/
theorem judgeStar_any (L : List Nq) (p : Option Addr) (cap : Nat) (n : ByteArray) (t : Int) (w : World) (hL : L.length ≤ 1048576) (hok : NOk L) (hn : n.size ≤ 1048576) (hat : NsAt w p L) :
    Calls Tryz.prog 123 #[.slice p L.length cap, .string n, .int .i64 t] w fun r w' => r = .returned (.int .i64 (jsB L n t)) ∧ Below w.heap.size w w' := by
  have J0 := hide' (Jk.start w n p L hat)
  obtain ⟨W0, hW0⟩ : ∃ W0, w.alloc (.cells #[.string n] 9) = W0 := ⟨_, rfl⟩
  rw [hW0] at J0
  have k0 : W0.cell? ⟨w.heap.size, 0, none⟩ = some (.string n) := J0.out.1.cell rfl
  have HS := hide' (fun W (h : NsAt W p L) => show_any L p cap n t W hL hok hn h)
  have HI := hide' (fun W (h : Jk w W n p L) => index_star L p cap (.pointer (some ⟨w.heap.size, 0, none⟩)) (fun x => ndB x.ts x.o x.nx n) W (by omega) h.2.2 (fun k hk W' hb => by
    obtain ⟨q1, q2, q3⟩ := hok _ (List.getElem_mem hk)
    exact star1_any L[k] n w.heap.size W' q1 q2 q3 hn ((h.step hb).1.cell rfl)))
  cases hs : shB L n t with
  | true =>
    have HE : Hid (jsB L n t = 2) := by unfold Hid jsB; rw [if_pos hs]
    rw [HE.out]
    rw [hs] at HS
    clear HI hok hat
    go_enter Tryz.func123, Tryz.ntmps123
    go_wp2_with (go_at_call 117; refine (HS.out _ J0.out.2.2).mono ?_; rintro r w1 ⟨rfl, hB⟩; have J1 := hide' (J0.out.step hB); clear hB)
    go_ret
    exact ⟨rfl, J1.out.2.1⟩
  | false =>
    have HJ : Hid (jsB L n t = match L.find? fun x => ndB x.ts x.o x.nx n with | none => 0 | some x => if withinB x.nx n = true then 2 else 1) := by unfold Hid jsB; rw [if_neg (by rw [hs]; decide)]; rfl
    rw [hs] at HS
    have HOK := hide' hok
    clear hat hok
    go_enter Tryz.func123, Tryz.ntmps123
    go_wp2_with (first
      | (go_at_call 117; refine (HS.out _ J0.out.2.2).mono ?_; rintro r w1 ⟨rfl, hB⟩; have J1 := hide' (J0.out.step hB); clear hB)
      | (go_at_call 131; refine (HI.out _ J1.out).mono ?_; rintro r w2 ⟨⟨i, rfl, hfx⟩, hB⟩; have J2 := hide' (J1.out.step hB); have HFX := hide' hfx; clear hB hfx; rcases HFX.out with ⟨rfl, hno⟩ | ⟨k, hk, rfl, hyes, -, hfst⟩))
    · go_ret
      exact ⟨by rw [HJ.out, Fx.none hno]; rfl, J2.out.2.1⟩
    · have HJ2 : Hid (jsB L n t = if withinB L[k].nx n = true then 2 else 1) := by unfold Hid; rw [HJ.out, Fx.some (P := fun x => ndB x.ts x.o x.nx n) hk hyes hfst]
      obtain ⟨q1, q2, q3⟩ := HOK.out _ (List.getElem_mem hk)
      have HW := hide' (fun W => nhasBelow_any L[k].pl L[k].ts L[k].o L[k].nx n W (by omega) hn)
      obtain ⟨g, off, rfl, hg, e0, e1, e2, e3⟩ := J2.out.2.2 k hk
      obtain ⟨x, hx⟩ : ∃ x, L[k] = x := ⟨_, rfl⟩
      rw [hx] at HJ2 HW e0 e1 e2 e3
      have k2 : w2.cell? ⟨w.heap.size, 0, none⟩ = some (.string n) := J2.out.1.cell rfl
      have QF : Hid (∀ V : World, Below w2.heap.size w2 V → V.cell? ⟨g, off + k * 4, none⟩ = some (.int .i64 x.pl) ∧ V.cell? ⟨g, off + k * 4 + 1, none⟩ = some (.string x.ts) ∧ V.cell? ⟨g, off + k * 4 + 2, none⟩ = some (.string x.o) ∧ V.cell? ⟨g, off + k * 4 + 3, none⟩ = some (.string x.nx) ∧ V.cell? ⟨w.heap.size, 0, none⟩ = some (.string n)) := fun V hb => ⟨(hb.cell (p := ⟨g, off + k * 4, none⟩) hg).trans e0, (hb.cell (p := ⟨g, off + k * 4 + 1, none⟩) hg).trans e1, (hb.cell (p := ⟨g, off + k * 4 + 2, none⟩) hg).trans e2, (hb.cell (p := ⟨g, off + k * 4 + 3, none⟩) hg).trans e3, (hb.cell (p := ⟨w.heap.size, 0, none⟩) J2.out.1.lt).trans k2⟩
      have hki : (k : Int) < (L.length : Int) := by omega
      generalize withinB x.nx n = bb at *
      clear HI HS HFX hyes hfst q1 q2 q3 HOK HJ hx hs
      cases bb
      all_goals (
        go_region_held3 (fun V => V.cell? ⟨g, off + k * 4, none⟩ = some (.int .i64 x.pl) ∧ V.cell? ⟨g, off + k * 4 + 1, none⟩ = some (.string x.ts) ∧ V.cell? ⟨g, off + k * 4 + 2, none⟩ = some (.string x.o) ∧ V.cell? ⟨g, off + k * 4 + 3, none⟩ = some (.string x.nx) ∧ V.cell? ⟨w.heap.size, 0, none⟩ = some (.string n)) (first | go_keep | exact QF.out _ HB3.out) ((go_at_call 119; refine (HW.out _).mono ?_; rintro r w3 ⟨rfl, hB⟩; have HB3 : Hid (Below w2.heap.size w2 w3) := (by first | exact hB | exact bstep (Below.refl _ _).drew hB (Nat.le_refl _)); clear hB)))
      all_goals (go_wp2_with fail)
      all_goals go_ret
      all_goals (exact ⟨by rw [HJ2.out]; rfl, by first | exact bstep J2.out.2.1 HB3.out J2.out.2.1.size | exact (bstep J2.out.2.1 HB3.out J2.out.2.1.size).drew⟩)
end Go.Proofs.YtgekfhghambacaaGreat

/-
  Proofs: what a list of NSEC says of a name. (The verifier's own text.)
-/
namespace Go.Proofs.YtgekfhghambacaaGreat
set_option linter.unusedVariables false
set_option linter.unusedSimpArgs false
open Go.RowKit Go.Shelf Go.Proofs.YtgekfhghambacaaGreat.Nm

theorem strsAt_ownJ {w : World} {base c : Nat} {p : Option Addr} {l : List ByteArray} (h : w.ownsRow base 9 1 (.slice p l.length c) l.length (l.map Value.string)) : StrsAt w p l := by
  intro j hj
  have h' := h
  obtain ⟨_, (⟨h1, h2⟩ | ⟨g, cap, cur, h1, hb, hg, hn', hcap, _⟩)⟩ := h'
  · omega
  · injection h1 with h1 h2 h3
    subst h1
    refine ⟨g, 0, rfl, (Array.getElem?_eq_some_iff.1 hg).1, ?_⟩
    rw [Nat.zero_add, h.cellAt j (by omega)]; simp [hj]
theorem one_strJ (w : World) (X : ByteArray) : StrsAt (w.alloc (.cells #[.string X] 9)) (some ⟨w.heap.size, 0, none⟩) [X] := fun j hj => by
  have h : Bx (w.alloc (.cells #[.string X] 9)) w.heap.size #[.string X] 9 := World.alloc_heap_new w _
  have hj0 : j = 0 := by simp at hj; exact hj
  subst hj0
  exact ⟨w.heap.size, 0, rfl, h.lt, h.cell rfl⟩
/-- what one NSEC says of a name -/
def jdB (L : List Nq) (x : Nq) (q : ByteArray) (t : Int) : Int := if ndB x.ts x.o x.nx q = true then (if withinB x.nx q = true then 2 else jsB L (starB (neB x.o x.nx q)) t) else 0
/-- what they all say -/
def jnB (L : List Nq) (q : ByteArray) (t : Int) : Int := if shB L q t = true then 2 else match L.find? fun x => jdB L x q t != 0 with | none => 0 | some x => jdB L x q t
theorem jn_none {L : List Nq} {q : ByteArray} {t : Int} (h : shB L q t = false) (hn : ∀ j (hj : j < L.length), jdB L L[j] q t = 0) : jnB L q t = 0 := by
  unfold jnB
  rw [if_neg (by rw [h]; decide)]
  have : L.find? (fun x => jdB L x q t != 0) = none := by
    rw [List.find?_eq_none]
    intro x hx
    obtain ⟨j, hj, rfl⟩ := List.getElem_of_mem hx
    simp [hn j hj]
  rw [this]
theorem jn_some {L : List Nq} {q : ByteArray} {t : Int} {k : Nat} (h : shB L q t = false) (hk : k < L.length) (hy : ¬ jdB L L[k] q t = 0) (hn : ∀ j (hj : j < L.length), j < k → jdB L L[j] q t = 0) : jnB L q t = jdB L L[k] q t := by
  unfold jnB
  rw [if_neg (by rw [h]; decide)]
  have : L.find? (fun x => jdB L x q t != 0) = some L[k] := Fx.some (P := fun x => jdB L x q t != 0) hk (by simpa using hy) (fun j hj hjk => by simp [hn j hj hjk])
  rw [this]
/-- what lies in memory along a round of judge -/
def Js (w wc : World) (B : Nat) (x : Nq) (p : Option Addr) (L : List Nq) (pa : Option Addr) (ca : Nat) (As : List ByteArray) : Prop := Bx wc B #[.int .i64 x.pl, .string x.ts, .string x.o, .string x.nx] 118 ∧ wc.ownsRow w.heap.size 9 1 (.slice pa As.length ca) As.length (As.map Value.string) ∧ Below w.heap.size w wc ∧ NsAt wc p L
theorem Js.step {w wc wd : World} {B : Nat} {x : Nq} {p : Option Addr} {L : List Nq} {pa : Option Addr} {ca : Nat} {As : List ByteArray} (h : Js w wc B x p L pa ca As) (hB : Below wc.heap.size wc wd) : Js w wd B x p L pa ca As := ⟨h.1.below hB h.1.lt, ownsRow_below h.2.1 hB, bstep h.2.2.1 hB h.2.2.1.size, h.2.2.2.below hB⟩
theorem Js.cells {w wc : World} {B : Nat} {x : Nq} {p : Option Addr} {L : List Nq} {pa : Option Addr} {ca : Nat} {As : List ByteArray} (h : Js w wc B x p L pa ca As) : wc.cell? ⟨B, 0, none⟩ = some (.int .i64 x.pl) ∧ wc.cell? ⟨B, 1, none⟩ = some (.string x.ts) ∧ wc.cell? ⟨B, 2, none⟩ = some (.string x.o) ∧ wc.cell? ⟨B, 3, none⟩ = some (.string x.nx) := ⟨h.1.cell rfl, h.1.cell rfl, h.1.cell rfl, h.1.cell rfl⟩
theorem Js.start {w wr : World} {x : Nq} {p : Option Addr} {L : List Nq} {pa : Option Addr} {ca : Nat} {As : List ByteArray} (ho : wr.ownsRow w.heap.size 9 1 (.slice pa As.length ca) As.length (As.map Value.string)) (hB : Below w.heap.size w wr) (hat : NsAt wr p L) : Js w (wr.alloc (.cells #[.int .i64 x.pl, .string x.ts, .string x.o, .string x.nx] 118)) wr.heap.size x p L pa ca As := by
  have h1 : Below wr.heap.size wr (wr.alloc (.cells #[.int .i64 x.pl, .string x.ts, .string x.o, .string x.nx] 118)) := (Below.refl _ _).alloc (Nat.le_refl _) _
  exact ⟨World.alloc_heap_new wr _, ownsRow_below ho h1, bstep hB h1 hB.size, hat.below h1⟩
set_option maxRecDepth 100000 in
set_option maxHeartbeats 4000000 in
/-- nsecs.judge -/
theorem judgeN_any (L : List Nq) (p : Option Addr) (cap : Nat) (q : ByteArray) (t : Int) (w : World) (hL : L.length ≤ 1048576) (hok : NOk L) (hq : q.size ≤ 1048576) (hat : NsAt w p L) :
    Calls Tryz.prog 116 #[.slice p L.length cap, .string q, .int .i64 t] w fun r w' => r = .returned (.int .i64 (jnB L q t)) ∧ Below w.heap.size w w' := by
  have HAT := hide' hat
  have HS := hide' (show_any L p cap q t w hL hok hq hat)
  cases hs : shB L q t with
  | true =>
    have HE : Hid (jnB L q t = 2) := by unfold Hid jnB; rw [if_pos hs]
    rw [HE.out]
    rw [hs] at HS
    go_enter Tryz.func116, Tryz.ntmps116
    go_wp2_with (go_at_call 117; refine HS.out.mono ?_; rintro r w1 ⟨rfl, hB⟩)
    go_ret
    exact ⟨rfl, hB⟩
  | false =>
    rw [hs] at HS
    have HSH := hide' hs
    have HOK := hide' hok
    clear hat hok hs
    go_enter Tryz.func116, Tryz.ntmps116
    go_wp2_with (go_at_call 117; refine HS.out.mono ?_; rintro r w1 ⟨rfl, hB⟩; have HB1 := hide' hB; clear hB)
    go_loopw [7, 18] (fun vl iv wr => ∃ k : Nat, iv = .int .i64 (k : Int) ∧ k ≤ L.length ∧ ∃ As : List ByteArray, As.length ≤ k ∧ Hid (wr.ownsRow w.heap.size 9 1 vl As.length (As.map Value.string)) ∧ Hid (∀ s ∈ As, jsB L s t = 0) ∧ Hid (∀ j (hj : j < L.length), j < k → jdB L L[j] q t = 0) ∧ Hid (Below w.heap.size w wr)) (fun _ iv _ => L.length - (intOf iv).toNat)
    case atStart => exact ⟨0, rfl, Nat.zero_le _, [], Nat.le_refl _, World.ownsRow_nil _ _ _ _, (fun s hs => by cases hs), fun j _ h => absurd h (Nat.not_lt_zero _), HB1⟩
    case round =>
      obtain ⟨k, rfl, hk, As, hAk, HO, HAs, HN, HB⟩ := hrel
      by_cases hlt : k < L.length
      · have hki : (k : Int) < (L.length : Int) := by omega
        obtain ⟨pa, ca, rfl, -⟩ := owns_shape HO.out
        obtain ⟨g, off, hpp, hg, e0, e1, e2, e3⟩ := (HAT.out.below HB.out) k hlt
        obtain ⟨q1, q2, q3⟩ := HOK.out _ (List.getElem_mem hlt)
        obtain ⟨x, hx⟩ : ∃ x, L[k] = x := ⟨_, rfl⟩
        have HX := hide' hx
        rw [hx] at e0 e1 e2 e3 q1 q2 q3
        have HNX : Hid (jdB L x q t = 0 → ∀ j (hj : j < L.length), j < k + 1 → jdB L L[j] q t = 0) := fun h j hj hjk => by
          rcases Nat.lt_succ_iff_lt_or_eq.1 hjk with h2 | rfl
          · exact HN.out j hj h2
          · rw [HX.out]; exact h
        have HYS : Hid (¬ jdB L x q t = 0 → jnB L q t = jdB L x q t) := fun h => by
          have := jn_some HSH.out hlt (by rw [HX.out]; exact h) HN.out
          rw [HX.out] at this; exact this
        clear hx
        have HD := hide' (fun W => ndenies_any x.pl x.ts x.o x.nx q W q1 (by omega) (by omega) hq)
        have HW := hide' (fun W => nhasBelow_any x.pl x.ts x.o x.nx q W (by omega) hq)
        have HEN := hide' (fun W => nencloser_any x.pl x.ts x.o x.nx q W (by omega) (by omega) hq)
        have hez : (neB x.o x.nx q).size ≤ 255 := by unfold neB; split <;> exact comB_size _ _
        have HST := hide' (fun W => star_any (neB x.o x.nx q) W (by unfold maxLen; omega))
        have hsz : (starB (neB x.o x.nx q)).size ≤ 1048576 := by
          unfold starB
          split
          · simp only [ByteArray.size_append]; have h2 : (⟨#[1, 42]⟩ : ByteArray).size = 2 := rfl; omega
          · simp
        have HJD : Hid (jdB L x q t = if ndB x.ts x.o x.nx q = true then (if withinB x.nx q = true then 2 else jsB L (starB (neB x.o x.nx q)) t) else 0) := rfl
        generalize neB x.o x.nx q = E at *
        generalize starB E = S at *
        have HCO := hide' (fun W (h : StrsAt W pa As) => containsS_any As pa ca S W (by omega) h)
        have HJS := hide' (fun W (h : NsAt W p L) => judgeStar_any L p cap S t W hL HOK.out hsz h)
        have S1 := hide' (Js.start (x := x) HO.out HB.out (HAT.out.below HB.out))
        subst hpp
        obtain ⟨W1, hW1⟩ : ∃ W1, wr.alloc (.cells #[.int .i64 x.pl, .string x.ts, .string x.o, .string x.nx] 118) = W1 := ⟨_, rfl⟩
        rw [hW1] at S1
        obtain ⟨c0, c1, c2, c3⟩ := S1.out.cells
        generalize ndB x.ts x.o x.nx q = a at *
        generalize withinB x.nx q = b at *
        clear q1 q2 q3 hez hsz HOK
        cases a
        · have hj : jdB L x q t = 0 := HJD.out
          have HR := hide' (HNX.out hj)
          clear hj
          go_wp2_with (first
            | (go_at_call 118; refine (HD.out _).mono ?_; rintro r w2 ⟨rfl, hB⟩; have S2 := hide' (S1.out.step hB); clear hB c0 c1 c2 c3; obtain ⟨c0, c1, c2, c3⟩ := S2.out.cells))
          exact ⟨⟨k + 1, by go_num, by omega, As, by omega, S2.out.2.1, HAs, HR, S2.out.2.2.1⟩, by simp [intOf]; omega⟩
        cases b
        rotate_left
        · have hj : jdB L x q t = 2 := HJD.out
          have HR := hide' (HYS.out (by rw [hj]; decide))
          rw [hj] at HR
          clear hj
          go_wp2_with (first
            | (go_at_call 118; refine (HD.out _).mono ?_; rintro r w2 ⟨rfl, hB⟩; have S2 := hide' (S1.out.step hB); clear hB c0 c1 c2 c3; obtain ⟨c0, c1, c2, c3⟩ := S2.out.cells)
            | (go_at_call 119; refine (HW.out _).mono ?_; rintro r w3 ⟨rfl, hB⟩; have S3 := hide' (S2.out.step hB); clear hB c0 c1 c2 c3; obtain ⟨c0, c1, c2, c3⟩ := S3.out.cells))
          go_ret
          exact ⟨by rw [HR.out]; rfl, S3.out.2.2.1⟩
        have HJ2 : Hid (jdB L x q t = jsB L S t) := HJD.out
        cases hc : (As.any fun k => S.toList == k.toList) with
        | true =>
          rw [hc] at HCO
          have hj : jdB L x q t = 0 := by
            obtain ⟨s, hs1, hs2⟩ := List.any_eq_true.1 hc
            have hs3 : S = s := toList_inj.1 (eq_of_beq hs2)
            rw [HJ2.out, hs3]
            exact HAs.out s hs1
          have HR := hide' (HNX.out hj)
          clear hj hc
          go_wp2_with (first
            | (go_at_call 118; refine (HD.out _).mono ?_; rintro r w2 ⟨rfl, hB⟩; have S2 := hide' (S1.out.step hB); clear hB c0 c1 c2 c3; obtain ⟨c0, c1, c2, c3⟩ := S2.out.cells)
            | (go_at_call 119; refine (HW.out _).mono ?_; rintro r w3 ⟨rfl, hB⟩; have S3 := hide' (S2.out.step hB); clear hB c0 c1 c2 c3; obtain ⟨c0, c1, c2, c3⟩ := S3.out.cells)
            | (go_at_call 121; refine (HEN.out _).mono ?_; rintro r w4 ⟨rfl, hB⟩; have S4 := hide' (S3.out.step hB); clear hB)
            | (go_at_call 120; refine (HST.out _).mono ?_; rintro r w5 ⟨rfl, hB⟩; have S5 := hide' (S4.out.step hB); clear hB)
            | (go_at_call 122; refine (HCO.out _ (strsAt_ownJ S5.out.2.1)).mono ?_; rintro r w6 ⟨rfl, hB⟩; have S6 := hide' (show Js w w6 wr.heap.size x (some ⟨g, off, none⟩) L pa ca As by rw [hB]; exact S5.out); clear hB))
          exact ⟨⟨k + 1, by go_num, by omega, As, by omega, S6.out.2.1, HAs, HR, S6.out.2.2.1⟩, by simp [intOf]; omega⟩
        | false =>
          rw [hc] at HCO
          clear hc
          by_cases hz : jsB L S t = 0
          · have HR := hide' (HNX.out (HJ2.out.trans hz))
            have HA2 : Hid (∀ s ∈ As ++ [S], jsB L s t = 0) := fun s hs => by
              rcases List.mem_append.1 hs with h | h
              · exact HAs.out s h
              · rw [List.mem_singleton] at h; rw [h]; exact hz
            rw [hz] at HJS
            clear hz
            go_wp2_with (first
              | (go_at_call 118; refine (HD.out _).mono ?_; rintro r w2 ⟨rfl, hB⟩; have S2 := hide' (S1.out.step hB); clear hB c0 c1 c2 c3; obtain ⟨c0, c1, c2, c3⟩ := S2.out.cells)
              | (go_at_call 119; refine (HW.out _).mono ?_; rintro r w3 ⟨rfl, hB⟩; have S3 := hide' (S2.out.step hB); clear hB c0 c1 c2 c3; obtain ⟨c0, c1, c2, c3⟩ := S3.out.cells)
              | (go_at_call 121; refine (HEN.out _).mono ?_; rintro r w4 ⟨rfl, hB⟩; have S4 := hide' (S3.out.step hB); clear hB)
              | (go_at_call 120; refine (HST.out _).mono ?_; rintro r w5 ⟨rfl, hB⟩; have S5 := hide' (S4.out.step hB); clear hB)
              | (go_at_call 122; refine (HCO.out _ (strsAt_ownJ S5.out.2.1)).mono ?_; rintro r w6 ⟨rfl, hB⟩; have S6 := hide' (show Js w w6 wr.heap.size x (some ⟨g, off, none⟩) L pa ca As by rw [hB]; exact S5.out); clear hB)
              | (go_at_call 123; refine (HJS.out _ S6.out.2.2.2).mono ?_; rintro r w7 ⟨rfl, hB⟩; have S7 := hide' (S6.out.step hB); have S8 := hide' (S7.out.step ((Below.refl _ w7).alloc (Nat.le_refl _) (.cells #[.string S] 9))); have hat2 : StrsAt (w7.alloc (.cells #[.string S] 9)) (some ⟨w7.heap.size, 0, none⟩) [S] := one_strJ w7 S; clear hB)
              | (at_builtin; refine wpList_append_strs rfl _ _ rfl w.heap.size _ _ _ rfl S8.out.2.1 (some ⟨w7.heap.size, 0, none⟩) [S] 1 rfl hat2 (fun e => by cases e) (by simp only [List.length_cons, List.length_nil]; omega) S8.out.2.2.1.size ?_; intro v3 w9 hown3 hg3; have B3 := hide' (S8.out.2.2.1.grown hg3 S8.out.2.2.1.size (fun q e => ownBlock_le S8.out.2.1 e)); have O3 := hide' hown3; clear hown3 hg3 hat2))
            refine ⟨⟨k + 1, by go_num, by omega, As ++ [S], by simp; omega, ?_, HA2, HR, B3⟩, by simp [intOf]; omega⟩
            have h9 := O3.out
            unfold Hid
            simpa using h9
          · have HR := hide' (HYS.out (by rw [HJ2.out]; exact hz))
            rw [HJ2.out] at HR
            generalize jsB L S t = z at *
            go_wp2_with (first
              | (go_at_call 118; refine (HD.out _).mono ?_; rintro r w2 ⟨rfl, hB⟩; have S2 := hide' (S1.out.step hB); clear hB c0 c1 c2 c3; obtain ⟨c0, c1, c2, c3⟩ := S2.out.cells)
              | (go_at_call 119; refine (HW.out _).mono ?_; rintro r w3 ⟨rfl, hB⟩; have S3 := hide' (S2.out.step hB); clear hB c0 c1 c2 c3; obtain ⟨c0, c1, c2, c3⟩ := S3.out.cells)
              | (go_at_call 121; refine (HEN.out _).mono ?_; rintro r w4 ⟨rfl, hB⟩; have S4 := hide' (S3.out.step hB); clear hB)
              | (go_at_call 120; refine (HST.out _).mono ?_; rintro r w5 ⟨rfl, hB⟩; have S5 := hide' (S4.out.step hB); clear hB)
              | (go_at_call 122; refine (HCO.out _ (strsAt_ownJ S5.out.2.1)).mono ?_; rintro r w6 ⟨rfl, hB⟩; have S6 := hide' (show Js w w6 wr.heap.size x (some ⟨g, off, none⟩) L pa ca As by rw [hB]; exact S5.out); clear hB)
              | (go_at_call 123; refine (HJS.out _ S6.out.2.2.2).mono ?_; rintro r w7 ⟨rfl, hB⟩; have S7 := hide' (S6.out.step hB); clear hB))
            go_ret
            exact ⟨by rw [HR.out]; rfl, S7.out.2.2.1⟩
      · obtain rfl : k = L.length := by omega
        have HR := hide' (jn_none HSH.out (fun j hj => HN.out j hj hj))
        go_wp2_with fail
        go_ret
        exact ⟨by rw [HR.out]; rfl, HB.out⟩
end Go.Proofs.YtgekfhghambacaaGreat
