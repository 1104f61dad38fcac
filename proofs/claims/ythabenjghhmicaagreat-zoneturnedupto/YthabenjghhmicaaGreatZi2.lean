import Derived.Test.YthabenjghhmicaaGreatZgpG
import Derived.Test.YthabenjghhmicaaGreatZrdG
/-
  The small zone is one. (The verifier's own text.)
-/
namespace Go.Proofs.YthabenjghhmicaaGreat
set_option linter.unusedVariables false
set_option linter.unusedSimpArgs false
open Go.RowKit Go.Shelf Go.Maps Go.Proofs.YthabenjghhmicaaGreat.Nm Go.Proofs.YthabenjghhmicaaGreat.Zs

def exA : ByteArray := ⟨#[2, 101, 120, 0]⟩
def soaD : ByteArray := ⟨#[2, 110, 115, 2, 101, 120, 0, 1, 114, 2, 101, 120, 0, 0, 0, 0, 7, 0, 0, 0, 1, 0, 0, 0, 1, 0, 0, 0, 1, 0, 0, 0, 1]⟩
def nsD : ByteArray := ⟨#[2, 110, 115, 2, 101, 120, 0]⟩
def r0Z : Rn := ⟨exA, 6, 1, 9, soaD⟩
def r1Z : Rn := ⟨exA, 2, 1, 9, nsD⟩
theorem small_code : (mkC exA [r0Z, r1Z]).2 = 0 := by decide +kernel
theorem perm_two {T : List Rn} (h : T.Perm [r0Z, r1Z]) : T = [r0Z, r1Z] ∨ T = [r1Z, r0Z] := by
  have hl := h.length_eq
  match T, hl, h with
  | [a, b], _, h =>
    have ha : a ∈ [r0Z, r1Z] := h.mem_iff.1 (by simp)
    have h1 : r0Z ∈ [a, b] := h.mem_iff.2 (by simp)
    have h2 : r1Z ∈ [a, b] := h.mem_iff.2 (by simp)
    have hne : r0Z ≠ r1Z := fun e => by have := congrArg Rn.t e; simp [r0Z, r1Z] at this
    simp only [List.mem_cons, List.not_mem_nil, or_false] at ha h1 h2
    rcases ha with rfl | rfl
    · left
      rcases h2 with h2 | h2
      · exact absurd h2.symm hne
      · rw [h2]
    · right
      rcases h1 with h1 | h1
      · exact absurd h1 hne
      · rw [h1]
def exU : ByteArray := ⟨#[2, 69, 88, 0]⟩
def exS : ByteArray := ⟨#[1, 97, 2, 101, 120, 0]⟩
theorem small_finds {T : List Rn} (h : T.Perm [r0Z, r1Z]) : (findB exA T exU 6).k = 1 ∧ (findB exA T exS 1).k = 6 ∧ serL T = 7 := by
  rcases perm_two h with rfl | rfl
  · exact ⟨by decide +kernel, by decide +kernel, by decide +kernel⟩
  · exact ⟨by decide +kernel, by decide +kernel, by decide +kernel⟩

set_option maxRecDepth 100000 in
theorem smallZ_any (w : World) : Calls Tryz.prog 64 #[] w fun e w' => e = .returned (.slice (some ⟨w.heap.size, 0, none⟩) 2 2) ∧ RsAt w' (some ⟨w.heap.size, 0, none⟩) [r0Z, r1Z] ∧ Below w.heap.size w w' := by
  obtain ⟨wa, hwa⟩ : ∃ wa, w.alloc (.cells (rce5 [r0Z, r1Z]).toArray 54) = wa := ⟨_, rfl⟩
  have HB : Hid (Below w.heap.size w wa) := hwa ▸ (Below.refl _ w).alloc (Nat.le_refl _) _
  have HX : Hid (Bx wa w.heap.size (rce5 [r0Z, r1Z]).toArray 54) := hwa ▸ World.alloc_heap_new w _
  have HR : Hid (RsAt wa (some ⟨w.heap.size, 0, none⟩) [r0Z, r1Z]) := by
    intro k hk
    have hk2 : k = 0 ∨ k = 1 := by simp at hk; omega
    have hlt := HX.out.lt
    rcases hk2 with rfl | rfl
    · exact ⟨w.heap.size, 0, rfl, hlt, HX.out.cell rfl, HX.out.cell rfl, HX.out.cell rfl, HX.out.cell rfl, HX.out.cell rfl⟩
    · exact ⟨w.heap.size, 0, rfl, hlt, HX.out.cell rfl, HX.out.cell rfl, HX.out.cell rfl, HX.out.cell rfl, HX.out.cell rfl⟩
  have hwb : w.alloc (.cells #[.string ⟨#[2, 101, 120, 0]⟩, .int .i64 6, .int .i64 1, .int .i64 9, .string ⟨#[2, 110, 115, 2, 101, 120, 0, 1, 114, 2, 101, 120, 0, 0, 0, 0, 7, 0, 0, 0, 1, 0, 0, 0, 1, 0, 0, 0, 1, 0, 0, 0, 1]⟩, .string ⟨#[2, 101, 120, 0]⟩, .int .i64 2, .int .i64 1, .int .i64 9, .string ⟨#[2, 110, 115, 2, 101, 120, 0]⟩] 54) = wa := hwa
  clear hwa
  go_enter Tryz.func64, Tryz.ntmps64
  go_wp2_with fail
  go_ret
  exact ⟨rfl, HR.out, HB.out⟩

set_option maxRecDepth 100000 in
theorem found_kind (k : Int) (a b : ByteArray) (c : Bool) (d : Option Addr) (e g : Nat) (W : World) : Sem.run Tryz.prog (Instr.field 34 (.agg #[.int .i64 k, .string a, .string b, .bool c, .slice d e g]) 0) W = .ok (.int .i64 k) W := by rfl
set_option maxRecDepth 100000 in
set_option maxHeartbeats 4000000 in
/-- gazetteerlaw3.begins -/
theorem begins_any (w : World) : Calls Tryz.prog 25 #[] w fun e w' => e = .returned (.bool true) ∧ Below w.heap.size w w' := by
  have HSm := hide' (smallZ_any w)
  have HNw : Hid (∀ V g, RsAt V (some ⟨g, 0, none⟩) [r0Z, r1Z] → Calls Tryz.prog 10 #[.string ⟨#[2, 101, 120, 0]⟩, .slice (some ⟨g, 0, none⟩) 2 2] V fun e w' => (∃ ord Z RW NM C m cnt p cp f, e = .returned (.tuple #[.pointer (some ⟨Z, 0, none⟩), .int .i64 0, .int .i64 0]) ∧ Zon V.heap.size w' exA [r0Z, r1Z] ord Z RW NM C m cnt p cp f) ∧ Below V.heap.size V w') := fun V g hat => by
    refine (new_any exA [r0Z, r1Z] (some ⟨g, 0, none⟩) 2 V (by simp) hat ?_ (by decide)).mono ?_
    · intro j hj
      have hj2 : j = 0 ∨ j = 1 := by simp at hj; omega
      rcases hj2 with rfl | rfl
      · exact ⟨by decide, by decide⟩
      · exact ⟨by decide, by decide⟩
    · intro e w' hn
      exact ⟨hn.yes small_code, hn.bl⟩
  have HF1 : Hid (∀ V n ord Z RW NM C m cnt p cp f, Zon n V exA [r0Z, r1Z] ord Z RW NM C m cnt p cp f → Calls Tryz.prog 12 #[.pointer (some ⟨Z, 0, none⟩), .string ⟨#[2, 69, 88, 0]⟩, .int .i64 6] V fun r w' => (∃ a b c d e g, r = .returned (.agg #[.int .i64 1, .string a, .string b, .bool c, .slice d e g])) ∧ Below V.heap.size V w') := fun V n ord Z RW NM C m cnt p cp f h => by
    refine (find_any h exU 6 (by decide)).mono ?_
    rintro r w' ⟨⟨v, rfl, ho⟩, hb⟩
    obtain ⟨p5, c5, rfl, _, _, _⟩ := own_shape ho
    rw [(small_finds h.laid.perm).1]
    exact ⟨⟨_, _, _, _, _, _, rfl⟩, hb⟩
  have HF2 : Hid (∀ V n ord Z RW NM C m cnt p cp f, Zon n V exA [r0Z, r1Z] ord Z RW NM C m cnt p cp f → Calls Tryz.prog 12 #[.pointer (some ⟨Z, 0, none⟩), .string ⟨#[1, 97, 2, 101, 120, 0]⟩, .int .i64 1] V fun r w' => (∃ a b c d e g, r = .returned (.agg #[.int .i64 6, .string a, .string b, .bool c, .slice d e g])) ∧ Below V.heap.size V w') := fun V n ord Z RW NM C m cnt p cp f h => by
    refine (find_any h exS 1 (by decide)).mono ?_
    rintro r w' ⟨⟨v, rfl, ho⟩, hb⟩
    obtain ⟨p5, c5, rfl, _, _, _⟩ := own_shape ho
    rw [(small_finds h.laid.perm).2.1]
    exact ⟨⟨_, _, _, _, _, _, rfl⟩, hb⟩
  have HSe : Hid (∀ V n ord Z RW NM C m cnt p cp f, Zon n V exA [r0Z, r1Z] ord Z RW NM C m cnt p cp f → Calls Tryz.prog 65 #[.pointer (some ⟨Z, 0, none⟩)] V fun r w' => r = .returned (.int .i64 7) ∧ Below V.heap.size V w') := fun V n ord Z RW NM C m cnt p cp f h => by
    have := zSerial_any h
    rw [(small_finds h.laid.perm).2.2] at this
    exact this
  have hfk := found_kind
  go_enter Tryz.func25, Tryz.ntmps25
  go_wp2_with (first
    | (go_at_call 64; refine HSm.out.mono ?_; rintro e w1 ⟨rfl, hr1, hB1⟩; have HR1 := hide' hr1; have HB1 := hide' hB1; clear hr1 hB1)
    | (go_at_call 10; refine (HNw.out _ _ HR1.out).mono ?_; rintro e w2 ⟨⟨ord, Z, RW, NM, C, m, cnt, p, cp, f, rfl, hz⟩, hB2⟩; have HZ := hide' hz; have HB2 := hide' (bstep HB1.out hB2 HB1.out.size); clear hz hB2)
    | (go_at_call 65; refine (HSe.out _ _ _ _ _ _ _ _ _ _ _ _ HZ.out).mono ?_; rintro e w3 ⟨rfl, hB3⟩; have HZ3 := hide' (HZ.out.step hB3); have HB3 := hide' (bstep HB2.out hB3 HB2.out.size); clear hB3)
    | (go_at_call 12; (with_reducible refine (HF1.out _ _ _ _ _ _ _ _ _ _ _ _ HZ3.out).mono ?_); rintro e w4 ⟨⟨a1, a2, a3, a4, a5, a6, rfl⟩, hB4⟩; have HZ4 := hide' (HZ3.out.step hB4); have HB4 := hide' (bstep HB3.out hB4 HB3.out.size); clear hB4)
    | (go_at_call 12; (with_reducible refine (HF2.out _ _ _ _ _ _ _ _ _ _ _ _ HZ4.out).mono ?_); rintro e w5 ⟨⟨b1, b2, b3, b4, b5, b6, rfl⟩, hB5⟩; have HB5 := hide' (bstep HB4.out hB5 HB4.out.size); clear hB5))
  go_ret
  exact ⟨rfl, HB5.out⟩
end Go.Proofs.YthabenjghhmicaaGreat
