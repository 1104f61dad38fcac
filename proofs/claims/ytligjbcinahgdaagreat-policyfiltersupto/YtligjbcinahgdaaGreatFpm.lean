import Derived.Test.YtligjbcinahgdaaGreatFpb
import Derived.Test.YtligjbcinahgdaaGreatFp4
import Derived.Test.YtligjbcinahgdaaGreatLmaG
import Derived.Test.YtligjbcinahgdaaGreatSm4G
import Derived.Test.YtligjbcinahgdaaGreatMkb1G
/-
  PolicyFilters: the boxes of what it hands on. (The verifier's own text.)
-/
namespace Go.Proofs.YtligjbcinahgdaaGreat
set_option linter.unusedVariables false
set_option linter.unusedSimpArgs false
open Go.RowKit Go.Shelf Go.Maps Go.Proofs.YtligjbcinahgdaaGreat.Nm

/-- the two boxes of what came in -/
structure L2 (w V : World) (mm ma : Array Value) : Prop where
  m : Bx V w.heap.size mm 27
  a : Bx V (w.heap.size + 1) ma 27
  b : Below w.heap.size w V
theorem L2.step {w V V' : World} {mm ma : Array Value} (h : L2 w V mm ma) (hb : Below V.heap.size V V') : L2 w V' mm ma := ⟨h.m.below hb h.m.lt, h.a.below hb h.a.lt, bstep h.b hb h.b.size⟩
theorem L2.new (w : World) (mm ma : Array Value) : L2 w ((w.alloc (.cells mm 27)).alloc (.cells ma 27)) mm ma := by
  have hm : Bx (w.alloc (.cells mm 27)) w.heap.size mm 27 := World.alloc_heap_new w _
  have ha : Bx ((w.alloc (.cells mm 27)).alloc (.cells ma 27)) (w.heap.size + 1) ma 27 := by
    have := World.alloc_heap_new (w.alloc (.cells mm 27)) (.cells ma 27)
    rw [World.size_alloc] at this
    exact this
  exact ⟨hm.grown (World.grownBy_alloc _ _ none) (by simp), ha, ((Below.refl _ w).alloc (Nat.le_refl _) _).alloc (by simp) _⟩
/-- behind the statement: both twins, in boxes of their own -/
structure T9 (w V : World) (mm ma : Array Value) (R1 R2 : Nat) (xm xa : Array Value) (tm ta : World → Prop) : Prop where
  l : L2 w V mm ma
  x : Bx V R1 xm 27
  y : Bx V R2 xa 27
  tm : tm V
  ta : ta V
/-- a world that has grown, written to in new blocks alone -/
theorem bel14 {w W : World} {R : Nat} (h : Below w.heap.size w W) (hR : w.heap.size ≤ R) (a0 a1 a2 a3 a4 a5 a6 a7 a8 a9 a10 a11 a12 a13 : Value) : Below w.heap.size w (set14 W R a0 a1 a2 a3 a4 a5 a6 a7 a8 a9 a10 a11 a12 a13) := below14 h hR h.size a0 a1 a2 a3 a4 a5 a6 a7 a8 a9 a10 a11 a12 a13
theorem T9.drewP {w V : World} {mm ma : Array Value} {R1 R2 : Nat} {xm xa : Array Value} {rq sq : Option Addr} {ma' mu md ea eu ed na nu nd fa fu fd : Nat} {P Q : List Qn} {Am Um Dm A U D : List Rn} (h : T9 w V mm ma R1 R2 xm xa (fun V => Tn4 V rq ma' mu md ea eu ed P Am Um Dm) (fun V => Tn4 V sq na nu nd fa fu fd Q A U D)) : T9 w V.drew mm ma R1 R2 xm xa (fun V => Tn4 V rq ma' mu md ea eu ed P Am Um Dm) (fun V => Tn4 V sq na nu nd fa fu fd Q A U D) :=
  ⟨⟨h.l.m, h.l.a, h.l.b.drew⟩, h.x, h.y, h.tm.below ((Below.refl _ V).drew), h.ta.below ((Below.refl _ V).drew)⟩
theorem bx_plainP {w : World} {R : Nat} {cs : Array Value} {T : TypeId} (h : Bx w R cs T) (hs : ∀ s, Value.string s ∉ cs) {j : Nat} {s : ByteArray} : w.cell? ⟨R, j, none⟩ ≠ some (.string s) := by
  intro he
  have h1 : cs[j]? = some (.string s) := by unfold Bx at h; simpa [World.cell?, h] using he
  exact hs s (Array.mem_of_getElem? h1)
section
variable {w : World} {X : Nat} {cs : Array Value} {T : TypeId} (a0 a1 a2 a3 a4 a5 a6 a7 a8 a9 a10 a11 a12 a13 : Value)
theorem cell14P {g : Nat} (hne : X ≠ g) (hg : g < w.heap.size) (j : Nat) : (set14 w X a0 a1 a2 a3 a4 a5 a6 a7 a8 a9 a10 a11 a12 a13).cell? ⟨g, j, none⟩ = w.cell? ⟨g, j, none⟩ := by
  have hb := (grown14 w X a0 a1 a2 a3 a4 a5 a6 a7 a8 a9 a10 a11 a12 a13).block g hg (fun e => hne (by injection e with e; exact e.symm))
  unfold World.cell?
  rw [hb]
theorem qs_setP {p : Option Addr} {L : List Qn} (h : QsAt w p L) (hb : Bx w X cs T) (hs : ∀ s, Value.string s ∉ cs) : QsAt (set14 w X a0 a1 a2 a3 a4 a5 a6 a7 a8 a9 a10 a11 a12 a13) p L := fun k hk => by
  obtain ⟨g, off, rfl, hg, h1, h2, h3⟩ := h k hk
  have hne : X ≠ g := by
    rintro rfl
    exact bx_plainP hb hs h1
  exact ⟨g, off, rfl, Nat.lt_of_lt_of_le hg (grown14 w X a0 a1 a2 a3 a4 a5 a6 a7 a8 a9 a10 a11 a12 a13).size, by rw [cell14P _ _ _ _ _ _ _ _ _ _ _ _ _ _ hne hg]; exact h1, by rw [cell14P _ _ _ _ _ _ _ _ _ _ _ _ _ _ hne hg]; exact h2, by rw [cell14P _ _ _ _ _ _ _ _ _ _ _ _ _ _ hne hg]; exact h3⟩
theorem rs_setP {p : Option Addr} {L : List Rn} (h : RsAt w p L) (hb : Bx w X cs T) (hs : ∀ s, Value.string s ∉ cs) : RsAt (set14 w X a0 a1 a2 a3 a4 a5 a6 a7 a8 a9 a10 a11 a12 a13) p L := fun k hk => by
  obtain ⟨g, off, rfl, hg, h1, h2, h3, h4, h5⟩ := h k hk
  have hne : X ≠ g := by
    rintro rfl
    exact bx_plainP hb hs h1
  exact ⟨g, off, rfl, Nat.lt_of_lt_of_le hg (grown14 w X a0 a1 a2 a3 a4 a5 a6 a7 a8 a9 a10 a11 a12 a13).size, by rw [cell14P _ _ _ _ _ _ _ _ _ _ _ _ _ _ hne hg]; exact h1, by rw [cell14P _ _ _ _ _ _ _ _ _ _ _ _ _ _ hne hg]; exact h2, by rw [cell14P _ _ _ _ _ _ _ _ _ _ _ _ _ _ hne hg]; exact h3, by rw [cell14P _ _ _ _ _ _ _ _ _ _ _ _ _ _ hne hg]; exact h4, by rw [cell14P _ _ _ _ _ _ _ _ _ _ _ _ _ _ hne hg]; exact h5⟩
theorem tn_setP {q1 : Option Addr} {ga gu gd ca cu cd : Nat} {Q : List Qn} {A U D : List Rn} (h : Tn4 w q1 ga gu gd ca cu cd Q A U D) (hb : Bx w X cs T) (hs : ∀ s, Value.string s ∉ cs) : Tn4 (set14 w X a0 a1 a2 a3 a4 a5 a6 a7 a8 a9 a10 a11 a12 a13) q1 ga gu gd ca cu cd Q A U D :=
  ⟨qs_setP _ _ _ _ _ _ _ _ _ _ _ _ _ _ h.q hb hs, rs_setP _ _ _ _ _ _ _ _ _ _ _ _ _ _ h.a hb hs, rs_setP _ _ _ _ _ _ _ _ _ _ _ _ _ _ h.u hb hs, rs_setP _ _ _ _ _ _ _ _ _ _ _ _ _ _ h.d hb hs, h.ka, h.ku, h.kd⟩
end
theorem zero_plain : ∀ s, Value.string s ∉ #[.int .i64 0, .bool false, .int .i64 0, .bool false, .bool false, .bool false, .bool false, .bool false, .bool false, .int .i64 0, .slice none 0 0, .slice none 0 0, .slice none 0 0, .slice none 0 0] := by intro s h; simp at h
theorem nine_one {wr Z Z1 : World} {R R' : Nat} {ys : Array Value} {T' : TypeId} {rq sq : Option Addr} {mb mu md ea eu ed na nu nd fa fu fd : Nat} {P Q : List Qn} {Am Um Dm A U D : List Rn} {m0 m1 m2 m3 m4 m5 m6 m7 m8 m9 m10 m11 m12 m13 : Value} (hB : Below wr.heap.size wr Z) (hR : wr.heap.size ≤ R) (hx : Bx Z R #[.int .i64 0, .bool false, .int .i64 0, .bool false, .bool false, .bool false, .bool false, .bool false, .bool false, .int .i64 0, .slice none 0 0, .slice none 0 0, .slice none 0 0, .slice none 0 0] 27) (hy : Bx Z R' ys T') (hne : R ≠ R') (tm : Tn4 Z rq mb mu md ea eu ed P Am Um Dm) (ta : Tn4 Z sq na nu nd fa fu fd Q A U D) (hZ : set14 Z R m0 m1 m2 m3 m4 m5 m6 m7 m8 m9 m10 m11 m12 m13 = Z1) :
    Bx Z1 R #[m0, m1, m2, m3, m4, m5, m6, m7, m8, m9, m10, m11, m12, m13] 27 ∧ Bx Z1 R' ys T' ∧ Tn4 Z1 rq mb mu md ea eu ed P Am Um Dm ∧ Tn4 Z1 sq na nu nd fa fu fd Q A U D ∧ Below wr.heap.size wr Z1 := by
  have e1 := bx14_set hx m0 m1 m2 m3 m4 m5 m6 m7 m8 m9 m10 m11 m12 m13
  have e2 := grown14 Z R m0 m1 m2 m3 m4 m5 m6 m7 m8 m9 m10 m11 m12 m13
  have e3 := tn_setP m0 m1 m2 m3 m4 m5 m6 m7 m8 m9 m10 m11 m12 m13 tm hx zero_plain
  have e4 := tn_setP m0 m1 m2 m3 m4 m5 m6 m7 m8 m9 m10 m11 m12 m13 ta hx zero_plain
  have e5 := bel14 hB hR m0 m1 m2 m3 m4 m5 m6 m7 m8 m9 m10 m11 m12 m13
  rw [hZ] at e1 e2 e3 e4 e5
  exact ⟨e1, hy.grown e2 (fun e => hne (by injection e)), e3, e4, e5⟩
theorem bx_drewF {W : World} {R : Nat} {cs : Array Value} {T : TypeId} (h : Bx W R cs T) : Bx W.drew R cs T := h
theorem tn_drewF {V : World} {q1 : Option Addr} {ga gu gd ca cu cd : Nat} {Q : List Qn} {A U D : List Rn} (h : Tn4 V q1 ga gu gd ca cu cd Q A U D) : Tn4 V.drew q1 ga gu gd ca cu cd Q A U D := h.below ((Below.refl _ V).drew)
/-- both boxes are written -/
theorem nine_end {w wr Z : World} {mm ma xm xa : Array Value} {R1 R2 : Nat} {rq sq : Option Addr} {mb mu md ea eu ed na nu nd fa fu fd : Nat} {P Q : List Qn} {Am Um Dm A U D : List Rn} {m0 m1 m2 m3 m4 m5 m6 m7 m8 m9 m10 m11 m12 m13 n0 n1 n2 n3 n4 n5 n6 n7 n8 n9 n10 n11 n12 n13 : Value} {Z1 Z2 : World} (h2 : L2 w wr mm ma) (hB : Below wr.heap.size wr Z) (h1 : wr.heap.size ≤ R1) (h1' : wr.heap.size ≤ R2) (hne : R1 ≠ R2) (hx : Bx Z R1 #[.int .i64 0, .bool false, .int .i64 0, .bool false, .bool false, .bool false, .bool false, .bool false, .bool false, .int .i64 0, .slice none 0 0, .slice none 0 0, .slice none 0 0, .slice none 0 0] 27) (hy : Bx Z R2 #[.int .i64 0, .bool false, .int .i64 0, .bool false, .bool false, .bool false, .bool false, .bool false, .bool false, .int .i64 0, .slice none 0 0, .slice none 0 0, .slice none 0 0, .slice none 0 0] 27) (tm : Tn4 Z rq mb mu md ea eu ed P Am Um Dm) (ta : Tn4 Z sq na nu nd fa fu fd Q A U D) (hZ1 : set14 Z R1 m0 m1 m2 m3 m4 m5 m6 m7 m8 m9 m10 m11 m12 m13 = Z1) (hZ2 : set14 Z1 R2 n0 n1 n2 n3 n4 n5 n6 n7 n8 n9 n10 n11 n12 n13 = Z2) :
    Bx Z1 R2 #[.int .i64 0, .bool false, .int .i64 0, .bool false, .bool false, .bool false, .bool false, .bool false, .bool false, .int .i64 0, .slice none 0 0, .slice none 0 0, .slice none 0 0, .slice none 0 0] 27 ∧ Below wr.heap.size wr Z1 ∧ Below wr.heap.size wr Z2 ∧ T9 w Z2 mm ma R1 R2 #[m0, m1, m2, m3, m4, m5, m6, m7, m8, m9, m10, m11, m12, m13] #[n0, n1, n2, n3, n4, n5, n6, n7, n8, n9, n10, n11, n12, n13] (fun V => Tn4 V rq mb mu md ea eu ed P Am Um Dm) (fun V => Tn4 V sq na nu nd fa fu fd Q A U D) := by
  obtain ⟨hx1, hy1, tm1, ta1, b1⟩ := nine_one hB h1 hx hy hne tm ta hZ1
  obtain ⟨hy2, hx2, tm2, ta2, b2⟩ := nine_one b1 h1' hy1 hx1 hne.symm tm1 ta1 hZ2
  exact ⟨hy1, b1, b2, h2.step b2, hx2, hy2, tm2, ta2⟩
end Go.Proofs.YtligjbcinahgdaaGreat
