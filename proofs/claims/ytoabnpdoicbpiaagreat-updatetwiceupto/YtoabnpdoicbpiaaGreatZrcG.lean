import Derived.Test.YtoabnpdoicbpiaaGreatZp4G
import Derived.Test.YtoabnpdoicbpiaaGreatOw0G
import Derived.Test.YtoabnpdoicbpiaaGreatZr1G
namespace Go.Proofs.YtoabnpdoicbpiaaGreat
set_option linter.unusedVariables false
set_option linter.unusedSimpArgs false
open Go.RowKit Go.Shelf Go.Maps Go.Proofs.YtoabnpdoicbpiaaGreat.Nm
def upR2 (x y : Rn) : Prop := befB y x = false
theorem up_cmp {x y : Rn} (hx : zonR x = true) (hy : zonR y = true) : upR2 x y ↔ cmpS (senS x) (senS y) ≤ 0 := by
 unfold upR2
 rw [bef_sen hy hx]
 have h := cmpS_anti (good_sen hx) (good_sen hy)
 constructor
 ·intro h1
  have := of_decide_eq_false h1
  omega
 ·intro h1
  exact decide_eq_false (by omega)
theorem up_trans {x y z : Rn} (hx : zonR x = true) (hy : zonR y = true) (hz : zonR z = true) (h1 : upR2 x y) (h2 : upR2 y z) : upR2 x z := by
 rw [up_cmp hx hy] at h1
 rw [up_cmp hy hz] at h2
 rw [up_cmp hx hz]
 exact cmpS_trans (good_sen hx) (good_sen hy) (good_sen hz) h1 h2
theorem up_total {x y : Rn} (hx : zonR x = true) (hy : zonR y = true) (h : befB y x = true) : upR2 y x := by
 rw [up_cmp hy hx]
 rw [bef_sen hy hx] at h
 have := of_decide_eq_true h
 omega
def okU (L : List Rn) : Prop := (∀ x ∈ L, rSm x) ∧ (∀ x ∈ L, ∀ y ∈ L, ∀ z ∈ L, upR2 x y → upR2 y z → upR2 x z) ∧ ∀ x ∈ L, ∀ y ∈ L, befB y x = true → upR2 y x
theorem okU_of {L : List Rn} (ok : okL L) : okU L := ⟨fun x hx => ok_small (ok x hx), fun x hx y hy z hz h1 h2 => up_trans (ok x hx) (ok y hy) (ok z hz) h1 h2, fun x hx y hy h => up_total (ok x hx) (ok y hy) h⟩
theorem okU_sub {L M : List Rn} (ok : okU L) (h : ∀ x ∈ M, x ∈ L) : okU M := ⟨fun x hx => ok.1 x (h x hx), fun x hx y hy z hz => ok.2.1 x (h x hx) y (h y hy) z (h z hz), fun x hx y hy => ok.2.2 x (h x hx) y (h y hy)⟩
structure Mg (L O A B : List Rn) : Prop where
 pm : (O ++ (A ++ B)).Perm L
 oo : O.Pairwise upR2
 aa : A.Pairwise upR2
 bb : B.Pairwise upR2
 oa : ∀ x ∈ O, ∀ y ∈ A ++ B, upR2 x y
section
variable {L O A B : List Rn} {x : Rn}
theorem pw_snoc {α : Type} {R : α → α → Prop} {O : List α} {x : α} (h : O.Pairwise R) (hx : ∀ y ∈ O, R y x) : (O ++ [x]).Pairwise R := by
 rw [List.pairwise_append]
 exact ⟨h, by simp, fun a ha b hb => by rw [List.mem_singleton] at hb; subst hb; exact hx a ha⟩
theorem Mg.left (h : Mg L O (x :: A) B) (hx : ∀ y ∈ A ++ B, upR2 x y) : Mg L (O ++ [x]) A B := by
 refine ⟨by simpa using h.pm, pw_snoc h.oo (fun y hy => h.oa y hy x (by simp)), (List.pairwise_cons.1 h.aa).2, h.bb, fun z hz y hy => ?_⟩
 rcases List.mem_append.1 hz with hz | hz
 ·exact h.oa z hz y (by rw [List.cons_append]; exact List.mem_cons_of_mem _ hy)
 ·rw [List.mem_singleton] at hz
  subst hz
  exact hx y hy
theorem Mg.right (h : Mg L O A (x :: B)) (hx : ∀ y ∈ A ++ B, upR2 x y) : Mg L (O ++ [x]) A B := by
 have hp : ((O ++ [x]) ++ (A ++ B)).Perm (O ++ (A ++ x :: B)) := by
  rw [List.append_assoc]
  exact List.Perm.append_left O (by rw [List.singleton_append]; exact List.perm_middle.symm)
 refine ⟨hp.trans h.pm, pw_snoc h.oo (fun y hy => h.oa y hy x (by simp)), h.aa, (List.pairwise_cons.1 h.bb).2, fun z hz y hy => ?_⟩
 rcases List.mem_append.1 hz with hz | hz
 ·refine h.oa z hz y ?_
  rcases List.mem_append.1 hy with hy | hy
  ·exact List.mem_append_left _ hy
  ·exact List.mem_append_right _ (List.mem_cons_of_mem _ hy)
 ·rw [List.mem_singleton] at hz
  subst hz
  exact hx y hy
theorem Mg.mem (h : Mg L O A B) {y : Rn} (hy : y ∈ A ++ B) : y ∈ L := h.pm.mem_iff.1 (List.mem_append_right _ hy)
theorem Mg.takeA (h : Mg L O (x :: A) B) (ok : okU L) (hb : ∀ y M, B = y :: M → befB y x = false) : Mg L (O ++ [x]) A B := by
 refine h.left fun z hz => ?_
 rcases List.mem_append.1 hz with hz | hz
 ·exact (List.pairwise_cons.1 h.aa).1 z hz
 ·cases B with
  | nil => cases hz
  | cons y M =>
   have h1 : upR2 x y := hb y M rfl
   rcases List.mem_cons.1 hz with rfl | hz
   ·exact h1
   ·exact ok.2.1 _ (h.mem (by simp)) _ (h.mem (by simp)) _ (h.mem (by simp [hz])) h1 ((List.pairwise_cons.1 h.bb).1 z hz)
theorem Mg.takeB (h : Mg L O A (x :: B)) (ok : okU L) (hb : ∀ y M, A = y :: M → befB x y = true) : Mg L (O ++ [x]) A B := by
 refine h.right fun z hz => ?_
 rcases List.mem_append.1 hz with hz | hz
 ·cases A with
  | nil => cases hz
  | cons y M =>
   have h1 : upR2 x y := ok.2.2 _ (h.mem (by simp)) _ (h.mem (by simp)) (hb y M rfl)
   rcases List.mem_cons.1 hz with rfl | hz
   ·exact h1
   ·exact ok.2.1 _ (h.mem (by simp)) _ (h.mem (by simp)) _ (h.mem (by simp [hz])) h1 ((List.pairwise_cons.1 h.aa).1 z hz)
 ·exact (List.pairwise_cons.1 h.bb).1 z hz
end
theorem run_tailZ (x : Rn) (A : List Rn) (p : Option Addr) (cp : Nat) (hc : A.length + 1 ≤ cp) (hcm : cp ≤ maxLen) (hp : p = none → cp = 0) :
  ∃ q, (q = none → cp - 1 = 0) ∧ (∀ W, (Instr.slice 22 (.slice p (A.length + 1) cp) (some (.int .i64 1)) none none).run Tryz.prog W = .ok (.slice q A.length (cp - 1)) W) ∧ (∀ W, RsAt W p (x :: A) → RsAt W q A) := by
 have ht' : Tryz.prog.underlying 22 = some (.slice (Tryz.prog.elem 22)) := by simp [Program.elem, Tryz.underlying22]
 have he' : Tryz.prog.elem 22 = 29 := by simp [Program.elem, Tryz.underlying22]
 refine ⟨if cp = 1 then p else p.map (·.add 5), ?_, fun W => ?_, fun W hat => ?_⟩
 ·intro hq
  by_cases e1 : cp = 1
  ·omega
  ·rw [if_neg e1] at hq
   cases p with
   | none => have := hp rfl; omega
   | some ad => cases hq
 ·rw [run_slice_l W _ _ _ _ ht' .i64 _ (by omega) (by omega), he', Tryz.sizeOf29]
  simp [Result.andThen, sliced]
 ·intro k hk
  obtain ⟨g, off, hpp, hg, r0, r1, r2, r3, r4⟩ := hat (k + 1) (by simp; omega)
  refine ⟨g, off + 5, ?_, hg, ?_⟩
  ·rw [if_neg (by omega), hpp]; simp [Addr.add]
  ·rw [show off + 5 + k * 5 = off + (k + 1) * 5 by omega]
   exact ⟨r0, r1, r2, r3, r4⟩
theorem run_loZ (L : List Rn) (h cp : Nat) (p : Option Addr) (hh : h ≤ cp) (W : World) : (Instr.slice 22 (.slice p L.length cp) none (some (.int .i64 (h : Int))) none).run Tryz.prog W = .ok (.slice p h cp) W := by
 have ht' : Tryz.prog.underlying 22 = some (.slice (Tryz.prog.elem 22)) := by simp [Program.elem, Tryz.underlying22]
 have he' : Tryz.prog.elem 22 = 29 := by simp [Program.elem, Tryz.underlying22]
 rw [run_slice_h W _ _ _ _ ht' .i64 _ (by omega) (by omega), he', Tryz.sizeOf29]
 cases p with
 | none => simp [Result.andThen, sliced]
 | some ad => simp [Result.andThen, sliced, Addr.add]
theorem run_hiZ (L : List Rn) (h cp : Nat) (p : Option Addr) (hh : h ≤ L.length) (hc : L.length ≤ cp) (hcm : cp ≤ maxLen) (hp : p = none → cp = 0) :
  ∃ q, (q = none → cp - h = 0) ∧ (∀ W, (Instr.slice 22 (.slice p L.length cp) (some (.int .i64 (h : Int))) none none).run Tryz.prog W = .ok (.slice q (L.length - h) (cp - h)) W) ∧ (∀ W, RsAt W p L → RsAt W q (L.drop h)) := by
 have ht' : Tryz.prog.underlying 22 = some (.slice (Tryz.prog.elem 22)) := by simp [Program.elem, Tryz.underlying22]
 have he' : Tryz.prog.elem 22 = 29 := by simp [Program.elem, Tryz.underlying22]
 refine ⟨if cp = h then p else p.map (·.add (h * 5)), ?_, fun W => ?_, fun W hat => ?_⟩
 ·intro hq
  by_cases e1 : cp = h
  ·omega
  ·rw [if_neg e1] at hq
   cases p with
   | none => have := hp rfl; omega
   | some ad => cases hq
 ·rw [run_slice_l W _ _ _ _ ht' .i64 _ (by omega) (by omega), he', Tryz.sizeOf29]
  simp [Result.andThen, sliced]
 ·intro k hk
  rw [List.length_drop] at hk
  obtain ⟨g, off, hpp, hg, r0, r1, r2, r3, r4⟩ := hat (h + k) (by omega)
  refine ⟨g, off + h * 5, ?_, hg, ?_⟩
  ·rw [if_neg (by omega), hpp]; simp [Addr.add]
  ·rw [List.getElem_drop, show off + h * 5 + k * 5 = off + (h + k) * 5 by omega]
   exact ⟨r0, r1, r2, r3, r4⟩
theorem rs_takeZ {w : World} {p : Option Addr} {L : List Rn} (h : Nat) (hat : RsAt w p L) : RsAt w p (L.take h) := fun k hk => by
 rw [List.length_take] at hk
 obtain ⟨g, off, h1, h2, h3, h4, h5, h6, h7⟩ := hat k (by omega)
 rw [List.getElem_take]
 exact ⟨g, off, h1, h2, h3, h4, h5, h6, h7⟩
def SrtE (L : List Rn) (w : World) (r : Ending) (w' : World) : Prop := ∃ v M, r = .returned v ∧ w'.ownsRow w.heap.size 29 5 v L.length (rce5 M) ∧ M.Perm L ∧ M.Pairwise upR2 ∧ Below w.heap.size w w'
def slLen : Value → Nat
 | .slice _ n _ => n
 | _ => 0
structure Ms (w2 wr : World) (L A B O : List Rn) (pa pb : Option Addr) (ca cb : Nat) (ov : Value) : Prop where
 mg : Mg L O A B
 a1 : A.length ≤ ca
 a2 : ca ≤ maxLen
 a3 : pa = none → ca = 0
 b1 : B.length ≤ cb
 b2 : cb ≤ maxLen
 b3 : pb = none → cb = 0
 ra : RsAt w2 pa A
 rb : RsAt w2 pb B
 own : wr.ownsRow w2.heap.size 29 5 ov O.length (rce5 O)
 bl : Below w2.heap.size w2 wr
theorem Ms.len {w2 wr : World} {L A B O : List Rn} {pa pb : Option Addr} {ca cb : Nat} {ov : Value} (h : Ms w2 wr L A B O pa pb ca cb ov) : O.length + (A.length + B.length) = L.length := by
 have := h.mg.pm.length_eq
 simpa using this
section
variable {w2 wr w9 : World} {L A B O : List Rn} {pa pb q : Option Addr} {ca cb : Nat} {ov v9 : Value} {x : Rn}
theorem Ms.nextA (h : Ms w2 wr L (x :: A) B O pa pb ca cb ov) (ok : okU L) (hb : ∀ y M, B = y :: M → befB y x = false) (hq : q = none → ca - 1 = 0) (hr : RsAt w2 q A) (own : w9.ownsRow w2.heap.size 29 5 v9 (O.length + [x].length) (rce5 O ++ rce5 [x])) (bl : Below w2.heap.size w2 w9) : Ms w2 w9 L A B (O ++ [x]) q pb (ca - 1) cb v9 := by
 have a1 := h.a1
 have a2 := h.a2
 rw [List.length_cons] at a1
 refine ⟨h.mg.takeA ok hb, by omega, by omega, hq, h.b1, h.b2, h.b3, hr, h.rb, ?_, bl⟩
 rw [rce5_app, List.length_append]; exact own
theorem Ms.nextB (h : Ms w2 wr L A (x :: B) O pa pb ca cb ov) (ok : okU L) (hb : ∀ y M, A = y :: M → befB x y = true) (hq : q = none → cb - 1 = 0) (hr : RsAt w2 q B) (own : w9.ownsRow w2.heap.size 29 5 v9 (O.length + [x].length) (rce5 O ++ rce5 [x])) (bl : Below w2.heap.size w2 w9) : Ms w2 w9 L A B (O ++ [x]) pa q ca (cb - 1) v9 := by
 have b1 := h.b1
 have b2 := h.b2
 rw [List.length_cons] at b1
 refine ⟨h.mg.takeB ok hb, h.a1, h.a2, h.a3, by omega, by omega, hq, h.ra, hr, ?_, bl⟩
 rw [rce5_app, List.length_append]; exact own
end
theorem Ms.app {w2 wr : World} {L A B O : List Rn} {pa pb : Option Addr} {ca cb : Nat} {ov : Value} (h : Ms w2 wr L A B O pa pb ca cb ov) (V : World) (hV : Below wr.heap.size wr V) (x : Rn) :
  (V.alloc (.cells #[.string x.o, .int .i64 x.t, .int .i64 x.c, .int .i64 x.l, .string x.d] 29)).ownsRow w2.heap.size 29 5 ov O.length (rce5 O) ∧ RsAt (V.alloc (.cells #[.string x.o, .int .i64 x.t, .int .i64 x.c, .int .i64 x.l, .string x.d] 29)) (some ⟨V.heap.size, 0, none⟩) [x] ∧ w2.heap.size ≤ (V.alloc (.cells #[.string x.o, .int .i64 x.t, .int .i64 x.c, .int .i64 x.l, .string x.d] 29)).heap.size ∧ Below w2.heap.size w2 (V.alloc (.cells #[.string x.o, .int .i64 x.t, .int .i64 x.c, .int .i64 x.l, .string x.d] 29)) := by
 have hb : Below w2.heap.size w2 V := bstep h.bl hV h.bl.size
 exact ⟨own_below h.own (hV.alloc (hV.size) _), rs_one V x, Nat.le_trans hb.size (by simp), hb.alloc hb.size _⟩
set_option maxRecDepth 100000 in
set_option maxHeartbeats 8000000 in
theorem sorted_few (L : List Rn) (p : Option Addr) (cap : Nat) (w : World) (hat : RsAt w p L) (hp : p = none → cap = 0) (h2 : L.length < 2) :
  Calls Tryz.prog 83 #[.slice p L.length cap] w (SrtE L w) := by
 have i2 : (L.length : Int) < 2 := by omega
 have HPW : Hid (L.Pairwise upR2) := by
  cases L with
  | nil => exact List.Pairwise.nil
  | cons x L =>
   cases L with
   | nil => exact List.pairwise_singleton ..
   | cons y L => simp at h2; omega
 have HN := hide' hp
 have HA := hide' hat
 clear hp hat
 go_enter Tryz.func83, Tryz.ntmps83
 go_wp2_with (at_builtin; refine wpList_append_recsM rfl _ _ rfl w.heap.size _ 0 [] rfl (World.ownsRow_nil _ _ _ _) p L cap rfl HA.out HN.out (by omega) (Nat.le_refl _) ?_; intro v5 w5 hown5 hg5; have hB5 : Below w.heap.size w w5 := (Below.refl _ _).grown hg5 (Nat.le_refl _) (fun k e => by cases e); have HO5 := hide' hown5; have HB5 := hide' hB5; clear hown5 hg5 hB5)
 go_ret
 refine ⟨v5, L, rfl, ?_, List.Perm.refl _, HPW.out, HB5.out⟩
 have := HO5.out
 rw [Nat.zero_add, List.nil_append] at this
 exact this
set_option maxRecDepth 100000 in
set_option maxHeartbeats 8000000 in
theorem sorted_many (L : List Rn) (h : Nat) (hh : L.length / 2 = h) (p q : Option Addr) (cap : Nat) (w : World) (ok : okU L) (h2 : ¬ L.length < 2) (hL : L.length ≤ 1000000) (hc : L.length ≤ cap)
  (hlo : ∀ W : World, (Instr.slice 22 (.slice p L.length cap) none (some (.int .i64 (h : Int))) none).run Tryz.prog W = .ok (.slice p h cap) W) (hq2 : ∀ W, (Instr.slice 22 (.slice p L.length cap) (some (.int .i64 (h : Int))) none none).run Tryz.prog W = .ok (.slice q (L.length - h) (cap - h)) W)
  (H1 : Hid (∀ V, Below w.heap.size w V → Calls Tryz.prog 83 #[.slice p h cap] V (SrtE (L.take h) V))) (H2 : Hid (∀ V, Below w.heap.size w V → Calls Tryz.prog 83 #[.slice q (L.length - h) (cap - h)] V (SrtE (L.drop h) V))) :
  Calls Tryz.prog 83 #[.slice p L.length cap] w (SrtE L w) := by
 have i2 : ¬ (L.length : Int) < 2 := by omega
 have hd1 : (L.length : Int).tdiv 2 = (h : Int) := by rw [Int.tdiv_eq_ediv_of_nonneg (by omega)]; omega
 have hd4 : IntKind.i64.wrap (h : Int) = (h : Int) := by rw [IntWalk.i64_in]; omega
 have hi1 : (0 : Int) ≤ (h : Int) := by omega
 have hi2 : (h : Int) ≤ (L.length : Int) := by omega
 have hi3 : (h : Int) ≤ (cap : Int) := by omega
 have hB := (Below.refl w.heap.size w).drew
 have HOK := hide' ok
 have HLen : Hid ((L.take h).length = h ∧ (L.drop h).length = L.length - h) := by
  unfold Hid; rw [List.length_take, List.length_drop]; omega
 clear ok
 go_enter Tryz.func83, Tryz.ntmps83
 go_wp2_with fail
 have hd5 : (0 : Int) ≤ 0 := by omega
 refine wp_region_held_drew (S := (fun _ => True)) (by kernel_rfl) ?_ (fun hHeld => ?_)
 ·trivial
 refine takeD 0 (some 11) (.slice p L.length cap) rfl rfl (by kernel_rfl) (by kernel_rfl) (by kernel_rfl) (fun _ _ _ h => h) (Or.inl ⟨by rfl, ?_⟩) (by assumption) ?_
 ·intro w hSw; (try dsimp only at hSw); go_simp <;> (intros; omega)
 simp only [Act.put, List.setIfInBounds_toArray, List.set_cons_zero, List.set_cons_succ]
 refine takeD 1 (some 12) (.slice p L.length cap) rfl rfl (by kernel_rfl) (by kernel_rfl) (by kernel_rfl) (fun _ _ _ h => h) (Or.inl ⟨by rfl, ?_⟩) (by assumption) ?_
 ·intro w hSw; (try dsimp only at hSw); go_simp <;> (intros; omega)
 simp only [Act.put, List.setIfInBounds_toArray, List.set_cons_zero, List.set_cons_succ]
 refine takeD 2 (some 13) (.int .i64 (L.length : Int)) rfl rfl (by kernel_rfl) (by kernel_rfl) (by kernel_rfl) (fun _ _ _ h => h) (Or.inl ⟨by rfl, ?_⟩) (by assumption) ?_
 ·intro w hSw; (try dsimp only at hSw); go_simp <;> (intros; omega)
 simp only [Act.put, List.setIfInBounds_toArray, List.set_cons_zero, List.set_cons_succ]
 refine takeD 3 (some 14) (.int .i64 (h : Int)) rfl rfl (by kernel_rfl) (by kernel_rfl) (by kernel_rfl) (fun _ _ _ h => h) (Or.inl ⟨by rfl, ?_⟩) (by assumption) ?_
 ·intro w hSw; (try dsimp only at hSw); go_simp <;> (intros; omega)
 simp only [Act.put, List.setIfInBounds_toArray, List.set_cons_zero, List.set_cons_succ]
 refine takeD 4 (some 15) (.slice p h cap) rfl rfl (by kernel_rfl) (by kernel_rfl) (by kernel_rfl) (fun _ _ _ h => h) (Or.inl ⟨by rfl, ?_⟩) (by assumption) ?_
 ·intro w hSw; (try dsimp only at hSw); go_simp <;> (intros; omega)
 simp only [Act.put, List.setIfInBounds_toArray, List.set_cons_zero, List.set_cons_succ]
 refine takeD 6 (some 17) (.slice p L.length cap) rfl rfl (by kernel_rfl) (by kernel_rfl) (by kernel_rfl) (fun _ _ _ h => h) (Or.inl ⟨by rfl, ?_⟩) (by assumption) ?_
 ·intro w hSw; (try dsimp only at hSw); go_simp <;> (intros; omega)
 simp only [Act.put, List.setIfInBounds_toArray, List.set_cons_zero, List.set_cons_succ]
 refine takeD 7 (some 18) (.slice p L.length cap) rfl rfl (by kernel_rfl) (by kernel_rfl) (by kernel_rfl) (fun _ _ _ h => h) (Or.inl ⟨by rfl, ?_⟩) (by assumption) ?_
 ·intro w hSw; (try dsimp only at hSw); go_simp <;> (intros; omega)
 simp only [Act.put, List.setIfInBounds_toArray, List.set_cons_zero, List.set_cons_succ]
 refine takeD 8 (some 19) (.int .i64 (L.length : Int)) rfl rfl (by kernel_rfl) (by kernel_rfl) (by kernel_rfl) (fun _ _ _ h => h) (Or.inl ⟨by rfl, ?_⟩) (by assumption) ?_
 ·intro w hSw; (try dsimp only at hSw); go_simp <;> (intros; omega)
 simp only [Act.put, List.setIfInBounds_toArray, List.set_cons_zero, List.set_cons_succ]
 refine takeD 9 (some 20) (.int .i64 (h : Int)) rfl rfl (by kernel_rfl) (by kernel_rfl) (by kernel_rfl) (fun _ _ _ h => h) (Or.inl ⟨by rfl, ?_⟩) (by assumption) ?_
 ·intro w hSw; (try dsimp only at hSw); go_simp <;> (intros; omega)
 simp only [Act.put, List.setIfInBounds_toArray, List.set_cons_zero, List.set_cons_succ]
 refine takeD 10 (some 21) (.slice q (L.length - h) (cap - h)) rfl rfl (by kernel_rfl) (by kernel_rfl) (by kernel_rfl) (fun _ _ _ h => h) (Or.inl ⟨by rfl, ?_⟩) (by assumption) ?_
 ·intro w hSw; (try dsimp only at hSw); go_simp <;> (intros; omega)
 simp only [Act.put, List.setIfInBounds_toArray, List.set_cons_zero, List.set_cons_succ]
 refine wpAnyH_ready (rs := [5]) (by kernel_rfl) (by simp) ?_
 refine AllReadyH.cons rfl (fun K hK => ?_) AllReadyH.nil
 go_simp
 go_at_call 83; refine (H1.out _ hB).mono ?_; rintro r w1 ⟨v1, M1, rfl, ho1, hp1, hs1, hB1⟩; have hB := below_any hB hB1 (by first | exact .inl rfl | exact .inr rfl) hB.size; have HO1 := hide' ho1; have HP1 := hide' hp1; have HS1 := hide' hs1; clear ho1 hp1 hs1 hB1
 go_wp2_with fail
 refine hK.out _ _ (trivial) (fun hHeld => ?_)
 clear hK K
 try simp only [Act.put, List.setIfInBounds_toArray, List.set_cons_zero, List.set_cons_succ]
 refine wpAnyH_ready (rs := [11]) (by kernel_rfl) (by simp) ?_
 refine AllReadyH.cons rfl (fun K hK => ?_) AllReadyH.nil
 go_simp
 go_at_call 83; refine (H2.out _ hB).mono ?_; rintro r w2 ⟨v2, M2, rfl, ho2, hp2, hs2, hB2⟩; have hB := below_any hB hB2 (by first | exact .inl rfl | exact .inr rfl) hB.size; have HO2 := hide' ho2; have HP2 := hide' hp2; have HS2 := hide' hs2; have HB2 := hide' hB2; clear ho2 hp2 hs2 hB2
 go_wp2_with fail
 refine hK.out _ _ (trivial) (fun hHeld => ?_)
 clear hK K
 try simp only [Act.put, List.setIfInBounds_toArray, List.set_cons_zero, List.set_cons_succ]
 refine takeD 12 (some 3) (v1) rfl rfl (by kernel_rfl) (by kernel_rfl) (by kernel_rfl) (fun _ _ _ h => h) (Or.inl ⟨by rfl, ?_⟩) (by assumption) ?_
 ·intro w hSw; (try dsimp only at hSw); go_simp <;> (intros; omega)
 simp only [Act.put, List.setIfInBounds_toArray, List.set_cons_zero, List.set_cons_succ]
 refine takeD 13 (some 4) (v2) rfl rfl (by kernel_rfl) (by kernel_rfl) (by kernel_rfl) (fun _ _ _ h => h) (Or.inl ⟨by rfl, ?_⟩) (by assumption) ?_
 ·intro w hSw; (try dsimp only at hSw); go_simp <;> (intros; omega)
 simp only [Act.put, List.setIfInBounds_toArray, List.set_cons_zero, List.set_cons_succ]
 refine wpAnyH_done (by kernel_rfl) ?_ _
 obtain ⟨p1, c1, rfl, k1, k2, k3⟩ := own_shape HO1.out
 obtain ⟨p2, c2, rfl, k4, k5, k6⟩ := own_shape HO2.out
 have HM0 : Hid (Ms w2 w2 L M1 M2 [] p1 p2 c1 c2 (.slice none 0 0)) := by
  have e1 : M1.length = (L.take h).length := HP1.out.length_eq
  have e2 : M2.length = (L.drop h).length := HP2.out.length_eq
  refine ⟨⟨?_, List.Pairwise.nil, HS1.out, HS2.out, fun x hx => by cases hx⟩, by omega, k2, k3, by omega, k5, k6, ?_, ?_, World.ownsRow_nil _ _ _ _, Below.refl _ _⟩
  ·rw [List.nil_append]
   have := HP1.out.append HP2.out
   rw [List.take_append_drop] at this
   exact this
  ·refine rs_stay (rsAt_ownZ HO1.out e1.symm) ?_
   first | exact HB2.out | exact (bstep (Below.refl _ _).drew HB2.out (Nat.le_refl _))
  ·exact rsAt_ownZ HO2.out e2.symm
 have HE1 : Hid ((L.take h).length = M1.length) := HP1.out.length_eq.symm
 have HE2 : Hid ((L.drop h).length = M2.length) := HP2.out.length_eq.symm
 have HBw := hide' hB
 rw [HE1.out, HE2.out]
 clear HO1 HO2 HP1 HP2 HS1 HS2 HB2 HE1 HE2 k1 k2 k3 k4 k5 k6 hlo hq2 hB H1 H2 hd1 hd4 hi1 hi2 hi3 hd5 HLen
 go_wp2_with fail
 go_loopw [3, 4, 5] (fun av bv ov wr => ∃ A B O pa pb ca cb, av = .slice pa A.length ca ∧ bv = .slice pb B.length cb ∧ Hid (Ms w2 wr L A B O pa pb ca cb ov)) (fun av bv _ _ => slLen av + slLen bv)
 case atStart => exact ⟨M1, M2, [], p1, p2, c1, c2, rfl, rfl, HM0⟩
 case round =>
  obtain ⟨A, B, O, pa, pb, ca, cb, rfl, rfl, HM⟩ := hrel
  have HLn := hide' HM.out.len
  cases A with
  | nil =>
   cases B with
   | nil =>
    go_wp2_with fail
    go_ret
    obtain ⟨hm, _, _, _, _, _, _, _, _, hown, hbl⟩ := HM.out
    have hpm : O.Perm L := by simpa using hm.pm
    refine ⟨_, O, rfl, ?_, hpm, hm.oo, bstep HBw.out hbl HBw.out.size⟩
    have := own_baseZ hown HBw.out.size
    rw [hpm.length_eq] at this
    exact this
   | cons y B =>
    obtain ⟨q, hq1, hq2, hq3⟩ := run_tailZ y B pb cb (by have := HM.out.b1; simpa using this) HM.out.b2 HM.out.b3
    have HQ3 : Hid (RsAt w2 q B) := hq3 _ HM.out.rb
    obtain ⟨gb, ob, hpb, hgb, y0, y1, y2, y3, y4⟩ := rs_stay HM.out.rb HM.out.bl 0 (by simp)
    simp only [List.getElem_cons_zero, Nat.zero_mul, Nat.add_zero] at y0 y1 y2 y3 y4
    subst hpb
    have HAP : Hid (∀ V, Below wr.heap.size wr V → _) := fun V hV => HM.out.app V hV y
    have HNX : Hid (∀ v9 w9, _ → _ → _) := fun v9 w9 => HM.out.nextB (v9 := v9) (w9 := w9) HOK.out (fun z M e => by cases e) hq1 HQ3.out
    have HO2 : Hid (O.length ≤ 1000000) := by have := HLn.out; simp at this; unfold Hid; omega
    clear hq3 HQ3
    have hB := (Below.refl wr.heap.size wr).drew
    have YC : Hid (∀ V, Below wr.heap.size wr V → V.cell? ⟨gb, ob, none⟩ = some (.string y.o) ∧ V.cell? ⟨gb, ob + 1, none⟩ = some (.int .i64 y.t) ∧ V.cell? ⟨gb, ob + 2, none⟩ = some (.int .i64 y.c) ∧ V.cell? ⟨gb, ob + 3, none⟩ = some (.int .i64 y.l) ∧ V.cell? ⟨gb, ob + 4, none⟩ = some (.string y.d)) := fun V hV => ⟨(hV.cell (p := ⟨gb, ob, none⟩) hgb).trans y0, (hV.cell (p := ⟨gb, ob + 1, none⟩) hgb).trans y1, (hV.cell (p := ⟨gb, ob + 2, none⟩) hgb).trans y2, (hV.cell (p := ⟨gb, ob + 3, none⟩) hgb).trans y3, (hV.cell (p := ⟨gb, ob + 4, none⟩) hgb).trans y4⟩
    obtain ⟨yo, yt, yc, yl, yd⟩ := y
    simp only at y0 y1 y2 y3 y4 HAP YC
    rw [List.length_cons]
    have hn1 : (((B.length : Int) + 1) == 0) = false := by rw [beq_eq_false_iff_ne]; omega
    have hn2 : ¬ ((B.length : Int) + 1 = 0) := by omega
    have hn3 : (((B.length + 1 : Nat) : Int) == 0) = false := by rw [beq_eq_false_iff_ne]; omega
    go_wp2_with fail
    go_region
    all_goals
     obtain ⟨y0, y1, y2, y3, y4⟩ := YC.out _ hB
     go_wp2_with (at_builtin; refine wpList_append_recsM rfl _ _ rfl w2.heap.size _ O.length (rce5 O) rfl (HAP.out _ hB).1 (some ⟨_, 0, none⟩) [⟨yo, yt, yc, yl, yd⟩] 1 rfl (HAP.out _ hB).2.1 (by simp) (by have := HO2.out; simp; omega) (HAP.out _ hB).2.2.1 ?_; intro v9 w9 ho9 hg9; have HO9 := hide' ho9; have HB9 := hide' ((HAP.out _ hB).2.2.2.grown hg9 (HAP.out _ hB).2.2.1 (fun k e => own_ge (HAP.out _ hB).1 e)); clear ho9 hg9)
     exact ⟨⟨[], B, O ++ [⟨yo, yt, yc, yl, yd⟩], pa, q, ca, cb - 1, rfl, rfl, hide' (HNX.out _ _ HO9.out HB9.out)⟩, by simp [slLen]⟩
  | cons x A =>
   obtain ⟨qa, ha1, ha2, ha3⟩ := run_tailZ x A pa ca (by have := HM.out.a1; simpa using this) HM.out.a2 HM.out.a3
   have HQA : Hid (RsAt w2 qa A) := ha3 _ HM.out.ra
   obtain ⟨ga, oa, hpa, hga, x0, x1, x2, x3, x4⟩ := rs_stay HM.out.ra HM.out.bl 0 (by simp)
   simp only [List.getElem_cons_zero, Nat.zero_mul, Nat.add_zero] at x0 x1 x2 x3 x4
   subst hpa
   have HAX : Hid (∀ V, Below wr.heap.size wr V → _) := fun V hV => HM.out.app V hV x
   have HO2 : Hid (O.length ≤ 1000000) := by have := HLn.out; simp at this; unfold Hid; omega
   have XC : Hid (∀ V, Below wr.heap.size wr V → V.cell? ⟨ga, oa, none⟩ = some (.string x.o) ∧ V.cell? ⟨ga, oa + 1, none⟩ = some (.int .i64 x.t) ∧ V.cell? ⟨ga, oa + 2, none⟩ = some (.int .i64 x.c) ∧ V.cell? ⟨ga, oa + 3, none⟩ = some (.int .i64 x.l) ∧ V.cell? ⟨ga, oa + 4, none⟩ = some (.string x.d)) := fun V hV => ⟨(hV.cell (p := ⟨ga, oa, none⟩) hga).trans x0, (hV.cell (p := ⟨ga, oa + 1, none⟩) hga).trans x1, (hV.cell (p := ⟨ga, oa + 2, none⟩) hga).trans x2, (hV.cell (p := ⟨ga, oa + 3, none⟩) hga).trans x3, (hV.cell (p := ⟨ga, oa + 4, none⟩) hga).trans x4⟩
   have hB := (Below.refl wr.heap.size wr).drew
   cases B with
   | nil =>
    have HNX : Hid (∀ v9 w9, _ → _ → _) := fun v9 w9 => HM.out.nextA (v9 := v9) (w9 := w9) HOK.out (fun z M e => by cases e) ha1 HQA.out
    obtain ⟨xo, xt, xc, xl, xd⟩ := x
    simp only at x0 x1 x2 x3 x4 HAX XC
    clear ha3 HQA
    rw [List.length_cons]
    go_wp2_with fail
    go_region
    all_goals
     obtain ⟨x0, x1, x2, x3, x4⟩ := XC.out _ hB
     go_wp2_with (at_builtin; refine wpList_append_recsM rfl _ _ rfl w2.heap.size _ O.length (rce5 O) rfl (HAX.out _ hB).1 (some ⟨_, 0, none⟩) [⟨xo, xt, xc, xl, xd⟩] 1 rfl (HAX.out _ hB).2.1 (by simp) (by have := HO2.out; simp; omega) (HAX.out _ hB).2.2.1 ?_; intro v9 w9 ho9 hg9; have HO9 := hide' ho9; have HB9 := hide' ((HAX.out _ hB).2.2.2.grown hg9 (HAX.out _ hB).2.2.1 (fun k e => own_ge (HAX.out _ hB).1 e)); clear ho9 hg9)
     exact ⟨⟨A, [], O ++ [⟨xo, xt, xc, xl, xd⟩], qa, pb, ca - 1, cb, rfl, rfl, hide' (HNX.out _ _ HO9.out HB9.out)⟩, by simp [slLen]⟩
   | cons y B =>
    obtain ⟨q, hq1, hq2, hq3⟩ := run_tailZ y B pb cb (by have := HM.out.b1; simpa using this) HM.out.b2 HM.out.b3
    have HQ3 : Hid (RsAt w2 q B) := hq3 _ HM.out.rb
    obtain ⟨gb, ob, hpb, hgb, y0, y1, y2, y3, y4⟩ := rs_stay HM.out.rb HM.out.bl 0 (by simp)
    simp only [List.getElem_cons_zero, Nat.zero_mul, Nat.add_zero] at y0 y1 y2 y3 y4
    subst hpb
    have HAP : Hid (∀ V, Below wr.heap.size wr V → _) := fun V hV => HM.out.app V hV y
    have YC : Hid (∀ V, Below wr.heap.size wr V → (V.cell? ⟨gb, ob, none⟩ = some (.string y.o) ∧ V.cell? ⟨gb, ob + 1, none⟩ = some (.int .i64 y.t) ∧ V.cell? ⟨gb, ob + 2, none⟩ = some (.int .i64 y.c) ∧ V.cell? ⟨gb, ob + 3, none⟩ = some (.int .i64 y.l) ∧ V.cell? ⟨gb, ob + 4, none⟩ = some (.string y.d)) ∧ V.cell? ⟨ga, oa, none⟩ = some (.string x.o) ∧ V.cell? ⟨ga, oa + 1, none⟩ = some (.int .i64 x.t) ∧ V.cell? ⟨ga, oa + 2, none⟩ = some (.int .i64 x.c) ∧ V.cell? ⟨ga, oa + 3, none⟩ = some (.int .i64 x.l) ∧ V.cell? ⟨ga, oa + 4, none⟩ = some (.string x.d)) := fun V hV => ⟨⟨(hV.cell (p := ⟨gb, ob, none⟩) hgb).trans y0, (hV.cell (p := ⟨gb, ob + 1, none⟩) hgb).trans y1, (hV.cell (p := ⟨gb, ob + 2, none⟩) hgb).trans y2, (hV.cell (p := ⟨gb, ob + 3, none⟩) hgb).trans y3, (hV.cell (p := ⟨gb, ob + 4, none⟩) hgb).trans y4⟩, XC.out V hV⟩
    have hxs : rSm x := HOK.out.1 x (HM.out.mg.mem (by simp))
    have hys : rSm y := HOK.out.1 y (HM.out.mg.mem (by simp))
    have HBe := hide' (fun V => before_any y x V hys hxs)
    have HNA : Hid (befB y x = false → ∀ v9 w9, _ → _ → _) := fun hf v9 w9 => HM.out.nextA (v9 := v9) (w9 := w9) HOK.out (fun z M e => by cases e; exact hf) ha1 HQA.out
    have HNB : Hid (befB y x = true → ∀ v9 w9, _ → _ → _) := fun hf v9 w9 => HM.out.nextB (v9 := v9) (w9 := w9) HOK.out (fun z M e => by cases e; exact hf) hq1 HQ3.out
    obtain ⟨E, hE⟩ : ∃ E, befB y x = E := ⟨_, rfl⟩
    rw [hE] at HBe
    have HEE := hide' hE
    clear hE ha3 HQA hq3 HQ3 hxs hys XC
    obtain ⟨xo, xt, xc, xl, xd⟩ := x
    obtain ⟨yo, yt, yc, yl, yd⟩ := y
    unfold rcV at HBe
    simp only at x0 x1 x2 x3 x4 y0 y1 y2 y3 y4 HAX HAP YC HBe
    rw [List.length_cons, List.length_cons]
    cases E with
    | true =>
     have HNX := hide' (HNB.out HEE.out)
     go_wp2_with fail
     go_region_held3 (fun V => (V.cell? ⟨gb, ob, none⟩ = some (.string yo) ∧ V.cell? ⟨gb, ob + 1, none⟩ = some (.int .i64 yt) ∧ V.cell? ⟨gb, ob + 2, none⟩ = some (.int .i64 yc) ∧ V.cell? ⟨gb, ob + 3, none⟩ = some (.int .i64 yl) ∧ V.cell? ⟨gb, ob + 4, none⟩ = some (.string yd)) ∧ V.cell? ⟨ga, oa, none⟩ = some (.string xo) ∧ V.cell? ⟨ga, oa + 1, none⟩ = some (.int .i64 xt) ∧ V.cell? ⟨ga, oa + 2, none⟩ = some (.int .i64 xc) ∧ V.cell? ⟨ga, oa + 3, none⟩ = some (.int .i64 xl) ∧ V.cell? ⟨ga, oa + 4, none⟩ = some (.string xd)) (first | go_keep | (with_reducible exact YC.out _ hB)) ((go_at_call 115; refine (HBe.out _).mono ?_; rintro r w5 ⟨rfl, hB5⟩; have hB := below_any hB hB5 (by first | exact .inl rfl | exact .inr rfl) hB.size; clear hB5))
     all_goals
      obtain ⟨⟨y0, y1, y2, y3, y4⟩, x0, x1, x2, x3, x4⟩ := YC.out _ hB
      go_wp2_with (at_builtin; refine wpList_append_recsM rfl _ _ rfl w2.heap.size _ O.length (rce5 O) rfl (HAP.out _ hB).1 (some ⟨_, 0, none⟩) [⟨yo, yt, yc, yl, yd⟩] 1 rfl (HAP.out _ hB).2.1 (by simp) (by have := HO2.out; simp; omega) (HAP.out _ hB).2.2.1 ?_; intro v9 w9 ho9 hg9; have HO9 := hide' ho9; have HB9 := hide' ((HAP.out _ hB).2.2.2.grown hg9 (HAP.out _ hB).2.2.1 (fun k e => own_ge (HAP.out _ hB).1 e)); clear ho9 hg9)
      exact ⟨⟨⟨xo, xt, xc, xl, xd⟩ :: A, B, O ++ [⟨yo, yt, yc, yl, yd⟩], _, q, ca, cb - 1, rfl, rfl, hide' (HNX.out _ _ HO9.out HB9.out)⟩, by simp [slLen]⟩
    | false =>
     have HNX := hide' (HNA.out HEE.out)
     go_wp2_with fail
     go_region_held3 (fun V => (V.cell? ⟨gb, ob, none⟩ = some (.string yo) ∧ V.cell? ⟨gb, ob + 1, none⟩ = some (.int .i64 yt) ∧ V.cell? ⟨gb, ob + 2, none⟩ = some (.int .i64 yc) ∧ V.cell? ⟨gb, ob + 3, none⟩ = some (.int .i64 yl) ∧ V.cell? ⟨gb, ob + 4, none⟩ = some (.string yd)) ∧ V.cell? ⟨ga, oa, none⟩ = some (.string xo) ∧ V.cell? ⟨ga, oa + 1, none⟩ = some (.int .i64 xt) ∧ V.cell? ⟨ga, oa + 2, none⟩ = some (.int .i64 xc) ∧ V.cell? ⟨ga, oa + 3, none⟩ = some (.int .i64 xl) ∧ V.cell? ⟨ga, oa + 4, none⟩ = some (.string xd)) (first | go_keep | (with_reducible exact YC.out _ hB)) ((go_at_call 115; refine (HBe.out _).mono ?_; rintro r w5 ⟨rfl, hB5⟩; have hB := below_any hB hB5 (by first | exact .inl rfl | exact .inr rfl) hB.size; clear hB5))
     all_goals
      obtain ⟨⟨y0, y1, y2, y3, y4⟩, x0, x1, x2, x3, x4⟩ := YC.out _ hB
      go_wp2_with (at_builtin; refine wpList_append_recsM rfl _ _ rfl w2.heap.size _ O.length (rce5 O) rfl (HAX.out _ hB).1 (some ⟨_, 0, none⟩) [⟨xo, xt, xc, xl, xd⟩] 1 rfl (HAX.out _ hB).2.1 (by simp) (by have := HO2.out; simp; omega) (HAX.out _ hB).2.2.1 ?_; intro v9 w9 ho9 hg9; have HO9 := hide' ho9; have HB9 := hide' ((HAX.out _ hB).2.2.2.grown hg9 (HAX.out _ hB).2.2.1 (fun k e => own_ge (HAX.out _ hB).1 e)); clear ho9 hg9)
      exact ⟨⟨A, ⟨yo, yt, yc, yl, yd⟩ :: B, O ++ [⟨xo, xt, xc, xl, xd⟩], qa, _, ca - 1, cb, rfl, rfl, hide' (HNX.out _ _ HO9.out HB9.out)⟩, by simp [slLen]⟩
theorem sortedU_any : ∀ (n : Nat) (L : List Rn), L.length ≤ n → okU L → ∀ (p : Option Addr) (cap : Nat) (w : World), RsAt w p L → L.length ≤ cap → cap ≤ maxLen → (p = none → cap = 0) → L.length ≤ 1000000 →
  Calls Tryz.prog 83 #[.slice p L.length cap] w (SrtE L w)
 | 0, L, hn, ok, p, cap, w, hat, hc, hcm, hp, hL => sorted_few L p cap w hat hp (by omega)
 | n + 1, L, hn, ok, p, cap, w, hat, hc, hcm, hp, hL => by
  by_cases h2 : L.length < 2
  ·exact sorted_few L p cap w hat hp h2
  ·obtain ⟨h, hh⟩ : ∃ h, L.length / 2 = h := ⟨_, rfl⟩
   obtain ⟨q, hq1, hq2, hq3⟩ := run_hiZ L h cap p (by omega) hc hcm hp
   have e1 : (L.take h).length = h := by rw [List.length_take]; omega
   have e2 : (L.drop h).length = L.length - h := List.length_drop
   refine sorted_many L h hh p q cap w ok h2 hL hc (run_loZ L h cap p (by omega)) hq2 (fun V hV => ?_) (fun V hV => ?_)
   ·have := sortedU_any n (L.take h) (by omega) (okU_sub ok (fun r hr => List.mem_of_mem_take hr)) p cap V (rs_stay (rs_takeZ h hat) hV) (by omega) hcm hp (by omega)
    rw [e1] at this
    exact this
   ·have := sortedU_any n (L.drop h) (by omega) (okU_sub ok (fun r hr => List.mem_of_mem_drop hr)) q (cap - h) V (rs_stay (hq3 w hat) hV) (by omega) (by omega) hq1 (by omega)
    rw [e2] at this
    exact this
theorem sorted_any (n : Nat) (L : List Rn) (hn : L.length ≤ n) (ok : okL L) (p : Option Addr) (cap : Nat) (w : World) (hat : RsAt w p L) (hc : L.length ≤ cap) (hcm : cap ≤ maxLen) (hp : p = none → cap = 0) (hL : L.length ≤ 2000) :
  Calls Tryz.prog 83 #[.slice p L.length cap] w (SrtE L w) := sortedU_any n L hn (okU_of ok) p cap w hat hc hcm hp (by omega)
end Go.Proofs.YtoabnpdoicbpiaaGreat
namespace Go.Proofs.YtoabnpdoicbpiaaGreat
set_option linter.unusedVariables false
set_option linter.unusedSimpArgs false
open Go.RowKit Go.Shelf Go.Maps Go.Proofs.YtoabnpdoicbpiaaGreat.Nm
def codL : List Value := [.int .i64 0, .int .i64 0, .int .i64 8, .int .i64 5, .int .i64 19, .int .i64 15, .int .i64 0, .int .i64 22, .int .i64 17, .int .i64 18, .int .i64 21]
theorem codL_get {r : Nat} (h2 : 2 ≤ r) (h10 : r ≤ 10) : codL.toArray[r]? = some (.int .i64 (codR r)) := by
 have hc : r = 2 ∨ r = 3 ∨ r = 4 ∨ r = 5 ∨ r = 6 ∨ r = 7 ∨ r = 8 ∨ r = 9 ∨ r = 10 := by omega
 rcases hc with rfl | rfl | rfl | rfl | rfl | rfl | rfl | rfl | rfl <;> rfl
structure MkE (apex : ByteArray) (L : List Rn) (w : World) (r : Ending) (w' : World) : Prop where
 bl : Below w.heap.size w w'
 no : (mkC apex L).2 ≠ 0 → r = .returned (.tuple #[.pointer none, .int .i64 (mkC apex L).1, .int .i64 (mkC apex L).2])
 yes : (mkC apex L).2 = 0 → ∃ zb v M, r = .returned (.tuple #[.pointer (some ⟨zb, 0, none⟩), .int .i64 0, .int .i64 0]) ∧ w.heap.size ≤ zb ∧ Bx w' zb #[.string apex, v] 126 ∧ w'.ownsRow w.heap.size 29 5 v L.length (rce5 M) ∧ M.Perm L ∧ M.Pairwise upR2
theorem mkE_no {apex : ByteArray} {L : List Rn} {w w' : World} {a c : Int} {r : Ending} (h : mkC apex L = (a, c)) (hc : c ≠ 0) (hr : r = .returned (.tuple #[.pointer none, .int .i64 a, .int .i64 c])) (hb : Below w.heap.size w w') : MkE apex L w r w' :=
 ⟨hb, fun _ => by rw [h]; exact hr, fun h0 => absurd (by rw [h] at h0; exact h0) hc⟩
set_option maxRecDepth 100000 in
set_option maxHeartbeats 8000000 in
theorem make_by (apex : ByteArray) (L : List Rn) (p : Option Addr) (cap : Nat) (w : World) (hL : L.length ≤ 2000) (hat : RsAt w p L) (hs : ∀ j, j < L.length → rSm (rAt L j)) (hap : apex.size ≤ 1048576) (hN : isN apex = true) (hcp : L.length ≤ cap) (hcm : cap ≤ maxLen) (hpn : p = none → cap = 0) (HBK : Hid (∀ V, Below w.heap.size w V → ∀ (rule k : Nat), k < L.length → 2 ≤ rule → rule ≤ 10 → Calls Tryz.prog 81 #[.int .i64 (rule : Int), .string apex, .slice p L.length cap, .int .i64 (k : Int)] V fun r w' => r = .returned (.bool (brkB apex L rule k)) ∧ Below V.heap.size V w')) :
  Calls Tryz.prog 52 #[.string apex, .slice p L.length cap] w (MkE apex L w) := by
 have HN := hide' (fun V => refIsName_any apex V hap)
 rw [hN] at HN
 have HC : Hid (mkC apex L = fltR (mkM apex L)) := by unfold Hid mkC; rw [hN, if_pos rfl, if_neg (by omega)]
 have hs' : ∀ r ∈ L, rSm r := fun r hr => by obtain ⟨i, hi, rfl⟩ := mem_at hr; exact hs i hi
 have HH6 : Hid (∀ V, Below w.heap.size w V → Calls Tryz.prog 82 #[.slice p L.length cap, .string apex, .int .i64 6] V fun r w' => r = .returned (.bool (hasB L apex 6)) ∧ Below V.heap.size V w') := fun V hV => rhas_any L p cap apex 6 V (by omega) (rs_stay hat hV) hs' hap
 have HH2 : Hid (∀ V, Below w.heap.size w V → Calls Tryz.prog 82 #[.slice p L.length cap, .string apex, .int .i64 2] V fun r w' => r = .returned (.bool (hasB L apex 2)) ∧ Below V.heap.size V w') := fun V hV => rhas_any L p cap apex 2 V (by omega) (rs_stay hat hV) hs' hap
 have HSO : Hid (okL L → ∀ V, Below w.heap.size w V → Calls Tryz.prog 83 #[.slice p L.length cap] V (SrtE L V)) := fun ok V hV => sorted_any L.length L (Nat.le_refl _) ok p cap V (rs_stay hat hV) hcp hcm hpn hL
 have i2 : ¬ (2000 : Int) < (L.length : Int) := by omega
 clear hat hs hs' hcp hcm hpn hN
 obtain ⟨h6, hh6⟩ : ∃ h6, hasB L apex 6 = h6 := ⟨_, rfl⟩
 obtain ⟨h2, hh2⟩ : ∃ h2, hasB L apex 2 = h2 := ⟨_, rfl⟩
 rw [hh6] at HH6
 rw [hh2] at HH2
 have H6E := hide' hh6
 have H2E := hide' hh2
 clear hh6 hh2
 go_enter Tryz.func52, Tryz.ntmps52
 go_wp2_with (go_at_call 80; refine (HN.out _).mono ?_; rintro r w1 ⟨rfl, hB1⟩)
 obtain ⟨wb, hwb⟩ : ∃ wb, w1.alloc (.cells #[.int .i64 0, .int .i64 0, .int .i64 8, .int .i64 5, .int .i64 19, .int .i64 15, .int .i64 0, .int .i64 22, .int .i64 17, .int .i64 18, .int .i64 21] 24) = wb := ⟨_, rfl⟩
 have HXb : Hid (Bx wb w1.heap.size codL.toArray 24) := hwb ▸ World.alloc_heap_new w1 _
 have HBb : Hid (Below w.heap.size w wb) := hwb ▸ hB1.alloc hB1.size _
 obtain ⟨gc, hgc⟩ : ∃ gc, w1.heap.size = gc := ⟨_, rfl⟩
 rw [hwb, hgc]
 rw [hgc] at HXb
 clear hwb hgc hB1
 go_loopw [8] (fun rv wr => ∃ r : Nat, rv = .int .i64 (r : Int) ∧ 2 ≤ r ∧ r ≤ 11 ∧ Hid (preR apex L r) ∧ Hid (Below wb.heap.size wb wr)) (fun rv _ => 11 - (intOf rv).toNat)
 case atStart => exact ⟨2, rfl, by omega, by omega, pre_two apex L, Below.refl _ _⟩
 case round =>
  obtain ⟨r, rfl, hr2, hr11, HP, HBr⟩ := hrel
  by_cases hr : r ≤ 10
  ·have ir : (r : Int) ≤ 10 := by omega
   have ir0 : (0 : Int) ≤ (r : Int) := by omega
   have ir1 : (r : Int) < 11 := by omega
   go_wp2_with fail
   go_loopw [23] (fun kv wq => ∃ k : Nat, kv = .int .i64 (k : Int) ∧ k ≤ L.length ∧ Hid (∀ j, j < k → brkB apex L r j = false) ∧ Hid (Below wb.heap.size wb wq)) (fun kv _ => L.length - (intOf kv).toNat)
   case atStart => exact ⟨0, rfl, Nat.zero_le _, (fun j h => absurd h (Nat.not_lt_zero _)), HBr⟩
   case round =>
    obtain ⟨k, rfl, hk, HK, HBq⟩ := hrel
    by_cases hlt : k < L.length
    ·have ik : (k : Int) < (L.length : Int) := by omega
     have HCa := hide' (HBK.out wr (bstep HBb.out HBq.out HBb.out.size) r k hlt hr2 hr)
     cases hb : brkB apex L r k with
     | true =>
      rw [hb] at HCa
      have HF := hide' (pre_hit hr2 hr HP.out hlt hb HK.out)
      have h6 : r ≠ 6 := fun e => by subst e; simp [brkB] at hb
      have HNE := hide' (codR_ne hr2 hr h6)
      have HCd : Hid (∀ V, Below wb.heap.size wb V → V.cell? ⟨gc, r, none⟩ = some (.int .i64 (codR r))) := fun V hV => (HXb.out.below hV HXb.out.lt).cell (codL_get hr2 hr)
      clear hb
      go_wp2_with (go_at_call 81; refine HCa.out.mono ?_; rintro e w5 ⟨rfl, hB5⟩; have hB := bstep HBq.out hB5 HBq.out.size)
      have hB := hB.drew
      have cd := HCd.out _ hB
      obtain ⟨cc, hcc⟩ : ∃ cc, codR r = cc := ⟨_, rfl⟩
      rw [hcc] at cd HF HNE
      clear hcc
      go_region
      all_goals
       go_wp2_with fail
       go_ret3
       exact mkE_no (HC.out.trans HF.out) HNE.out rfl (bstep HBb.out hB HBb.out.size)
     | false =>
      rw [hb] at HCa
      have HU := hide' (up_to HK.out hb)
      clear hb
      go_wp2_with (go_at_call 81; refine HCa.out.mono ?_; rintro e w5 ⟨rfl, hB5⟩; have hB := bstep HBq.out hB5 HBq.out.size)
      exact ⟨⟨k + 1, by go_num, by omega, HU, hB⟩, by simp [intOf]; omega⟩
    ·obtain rfl : k = L.length := by omega
     have HBw := hide' (bstep HBb.out HBq.out HBb.out.size)
     by_cases e5 : r = 5
     ·subst e5
      cases h6 with
      | false =>
       have HF := hide' (pre_five_no HP.out HK.out H6E.out)
       go_wp2_with (go_at_call 82; refine (HH6.out _ HBw.out).mono ?_; rintro e w5 ⟨rfl, hB5⟩; have hB := bstep HBw.out hB5 HBw.out.size)
       go_ret3
       exact mkE_no (HC.out.trans HF.out) (by decide) rfl hB
      | true =>
       have HF := hide' (pre_five HP.out HK.out H6E.out)
       go_wp2_with (go_at_call 82; refine (HH6.out _ HBw.out).mono ?_; rintro e w5 ⟨rfl, hB5⟩; have hB := bstep HBq.out hB5 HBq.out.size)
       exact ⟨⟨6, by go_num, by omega, by omega, HF, hB⟩, by simp [intOf]⟩
     ·have e5b : ((r : Int) == 5) = false := by rw [beq_eq_false_iff_ne]; omega
      by_cases e6 : r = 6
      ·subst e6
       cases h2 with
       | false =>
        have HF := hide' (pre_six_no HP.out H2E.out)
        go_wp2_with (go_at_call 82; refine (HH2.out _ HBw.out).mono ?_; rintro e w5 ⟨rfl, hB5⟩; have hB := bstep HBw.out hB5 HBw.out.size)
        go_ret3
        exact mkE_no (HC.out.trans HF.out) (by decide) rfl hB
       | true =>
        have HF := hide' (pre_six HP.out H2E.out)
        go_wp2_with (go_at_call 82; refine (HH2.out _ HBw.out).mono ?_; rintro e w5 ⟨rfl, hB5⟩; have hB := bstep HBq.out hB5 HBq.out.size)
        exact ⟨⟨7, by go_num, by omega, by omega, HF, hB⟩, by simp [intOf]⟩
      ·have e6b : ((r : Int) == 6) = false := by rw [beq_eq_false_iff_ne]; omega
       have HF := hide' (pre_next hr2 hr e5 e6 HP.out HK.out)
       go_wp2_with fail
       exact ⟨⟨r + 1, by go_num, by omega, by omega, HF, HBq⟩, by simp [intOf]; omega⟩
  ·obtain rfl : r = 11 := by omega
   have HOK := hide' (pre_ok HP.out)
   have HCE := hide' (HC.out.trans (pre_all HP.out))
   have HBw := hide' (bstep HBb.out HBr.out HBb.out.size)
   have HS := hide' (HSO.out HOK.out _ HBw.out)
   go_wp2_with (go_at_call 83; refine HS.out.mono ?_; rintro e w5 ⟨v5, M, rfl, ho, hpm, hpw, hB5⟩; obtain ⟨p5, c5, rfl, _, _, _⟩ := own_shape ho; have HO := hide' ho; have HPM := hide' hpm; have HPW := hide' hpw; have HB5 := hide' hB5; clear ho hpm hpw hB5)
   go_ret3
   have hbw := bstep HBw.out HB5.out HBw.out.size
   refine ⟨hbw.alloc hbw.size _, fun h => absurd (by rw [HCE.out]) h, fun _ => ⟨_, _, M, rfl, hbw.size, World.alloc_heap_new w5 _, own_baseZ (own_below HO.out ((Below.refl _ _).alloc (Nat.le_refl _) _)) HBw.out.size, HPM.out, HPW.out⟩⟩
end Go.Proofs.YtoabnpdoicbpiaaGreat
namespace Go.Proofs.YtoabnpdoicbpiaaGreat
set_option linter.unusedVariables false
set_option linter.unusedSimpArgs false
open Go.RowKit Go.Shelf Go.Maps Go.Proofs.YtoabnpdoicbpiaaGreat.Nm
set_option maxRecDepth 100000 in
set_option maxHeartbeats 4000000 in
theorem brk8_not (apex : ByteArray) (L : List Rn) (p : Option Addr) (cap k : Nat) (w : World) (hL : L.length ≤ 1048576) (hat : RsAt w p L) (hs : ∀ j, j < L.length → rSm (rAt L j)) (hap : apex.size ≤ 1048576) (hk : k < L.length) (hty : (rAt L k).t ≠ 5) :
  Calls Tryz.prog 81 #[.int .i64 8, .string apex, .slice p L.length cap, .int .i64 (k : Int)] w fun r w' => r = .returned (.bool (brk8 L k (rAt L k))) ∧ Below w.heap.size w w' := by
 obtain ⟨g, off, hp⟩ := rs_at hat hk
 subst hp
 have HAT := hide' hat
 have HSm := hide' hs
 have HXX : Hid (rSm (rAt L k)) := hs k hk
 obtain ⟨q0, q1, q2, q3, q4⟩ := rs_cells hat rfl hk (Below.refl _ w)
 have K0 := hide' (Bk.start w (rAt L k))
 obtain ⟨x, hx⟩ : ∃ x, rAt L k = x := ⟨_, rfl⟩
 rw [hx] at q0 q1 q2 q3 q4 HXX K0 hty
 try rw [hx]
 have HX := hide' hx
 clear hx hat hs
 have HJ : Hid (∀ j, j < L.length → ∀ V, Below w.heap.size w V → V.cell? ⟨g, off + j * 5, none⟩ = some (.string (rAt L j).o) ∧ V.cell? ⟨g, off + j * 5 + 1, none⟩ = some (.int .i64 (rAt L j).t) ∧ V.cell? ⟨g, off + j * 5 + 2, none⟩ = some (.int .i64 (rAt L j).c) ∧ V.cell? ⟨g, off + j * 5 + 3, none⟩ = some (.int .i64 (rAt L j).l) ∧ V.cell? ⟨g, off + j * 5 + 4, none⟩ = some (.string (rAt L j).d)) := fun j hj V hV => rs_cells HAT.out rfl hj hV
 have pk1 : (0 : Int) ≤ (k : Int) := by omega
 have pk2 : (k : Int) < (L.length : Int) := by omega
 obtain ⟨wa, hwa⟩ : ∃ wa, w.alloc (.cells #[.string x.o, .int .i64 x.t, .int .i64 x.c, .int .i64 x.l, .string x.d] 29) = wa := ⟨_, rfl⟩
 rw [hwa] at K0
 have HK : Hid (∀ V, Below wa.heap.size wa V → Bk w V x) := fun V hV => K0.out.step hV
 obtain ⟨v0, v1, v2, v3, v4⟩ := K0.out.cells
 obtain ⟨xo, xt, xc, xl, xd⟩ := x
 simp only at q0 q1 q2 q3 q4 v0 v1 v2 v3 v4 hwa hty
 show Calls _ _ _ _ fun r w' => r = .returned (.bool (decide (xt = 5) && ((List.range L.length).any fun j => !decide (j = k) && (eqB (rAt L j).o xo && othB (rAt L j))))) ∧ _
 have h6 : ¬ xt = 5 := hty
 have h6b : (xt == 5) = false := by simp [h6]
 go_enter Tryz.func81, Tryz.ntmps81
 go_wp2_with fail
 go_loopw [110] (fun jv wr => ∃ j : Nat, jv = .int .i64 (j : Int) ∧ j ≤ L.length ∧ Hid (Below wa.heap.size wa wr)) (fun jv _ => L.length - (intOf jv).toNat)
 case atStart => exact ⟨0, rfl, Nat.zero_le _, Below.refl _ _⟩
 case round =>
  obtain ⟨j, rfl, hj, HBr⟩ := hrel
  obtain ⟨u0, u1, u2, u3, u4⟩ := (HK.out _ HBr.out).cells
  simp only at u0 u1 u2 u3 u4
  by_cases hlt : j < L.length
  ·have pj : (j : Int) < (L.length : Int) := by omega
   go_wp2_with fail
   go_region
   all_goals
    go_wp2_with fail
    exact ⟨⟨j + 1, by go_num, by omega, HBr.out.drew⟩, by simp [intOf]; omega⟩
  ·obtain rfl : j = L.length := by omega
   go_wp2_with fail
   go_ret
   exact ⟨by simp [h6], (HK.out _ HBr.out).bl⟩
set_option maxRecDepth 100000 in
set_option maxHeartbeats 4000000 in
theorem brk9_not (apex : ByteArray) (L : List Rn) (p : Option Addr) (cap k : Nat) (w : World) (hL : L.length ≤ 1048576) (hat : RsAt w p L) (hs : ∀ j, j < L.length → rSm (rAt L j)) (hap : apex.size ≤ 1048576) (hk : k < L.length) (hty : (rAt L k).t ≠ 39) :
  Calls Tryz.prog 81 #[.int .i64 9, .string apex, .slice p L.length cap, .int .i64 (k : Int)] w fun r w' => r = .returned (.bool (brk9 apex L k (rAt L k))) ∧ Below w.heap.size w w' := by
 obtain ⟨g, off, hp⟩ := rs_at hat hk
 subst hp
 have HAT := hide' hat
 have HSm := hide' hs
 have HXX : Hid (rSm (rAt L k)) := hs k hk
 obtain ⟨q0, q1, q2, q3, q4⟩ := rs_cells hat rfl hk (Below.refl _ w)
 have K0 := hide' (Bk.start w (rAt L k))
 obtain ⟨x, hx⟩ : ∃ x, rAt L k = x := ⟨_, rfl⟩
 rw [hx] at q0 q1 q2 q3 q4 HXX K0 hty
 try rw [hx]
 have HX := hide' hx
 clear hx hat hs
 have HJ : Hid (∀ j, j < L.length → ∀ V, Below w.heap.size w V → V.cell? ⟨g, off + j * 5, none⟩ = some (.string (rAt L j).o) ∧ V.cell? ⟨g, off + j * 5 + 1, none⟩ = some (.int .i64 (rAt L j).t) ∧ V.cell? ⟨g, off + j * 5 + 2, none⟩ = some (.int .i64 (rAt L j).c) ∧ V.cell? ⟨g, off + j * 5 + 3, none⟩ = some (.int .i64 (rAt L j).l) ∧ V.cell? ⟨g, off + j * 5 + 4, none⟩ = some (.string (rAt L j).d)) := fun j hj V hV => rs_cells HAT.out rfl hj hV
 have pk1 : (0 : Int) ≤ (k : Int) := by omega
 have pk2 : (k : Int) < (L.length : Int) := by omega
 obtain ⟨wa, hwa⟩ : ∃ wa, w.alloc (.cells #[.string x.o, .int .i64 x.t, .int .i64 x.c, .int .i64 x.l, .string x.d] 29) = wa := ⟨_, rfl⟩
 rw [hwa] at K0
 have HK : Hid (∀ V, Below wa.heap.size wa V → Bk w V x) := fun V hV => K0.out.step hV
 obtain ⟨v0, v1, v2, v3, v4⟩ := K0.out.cells
 obtain ⟨xo, xt, xc, xl, xd⟩ := x
 simp only at q0 q1 q2 q3 q4 v0 v1 v2 v3 v4 hwa hty
 show Calls _ _ _ _ fun r w' => r = .returned (.bool (decide (xt = 39) && (((List.range L.length).any (fun j => (!decide (j = k) && (eqB (rAt L j).o xo && decide ((rAt L j).t = 39))) || (!eqB (rAt L j).o xo && withinB (rAt L j).o xo))) || eqB xo apex))) ∧ _
 have HEA := hide' (fun V => equalName_any xo apex V HXX.out.1 hap)
 have h6 : ¬ xt = 39 := hty
 have h6b : (xt != 39) = true := by simp [h6]
 go_enter Tryz.func81, Tryz.ntmps81
 go_wp2_with fail
 go_ret
 exact ⟨by simp [h6], K0.out.bl⟩
end Go.Proofs.YtoabnpdoicbpiaaGreat
