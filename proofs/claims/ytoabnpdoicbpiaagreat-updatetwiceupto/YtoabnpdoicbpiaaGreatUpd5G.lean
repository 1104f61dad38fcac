import Derived.Test.YtoabnpdoicbpiaaGreatCc1G
import Derived.Test.YtoabnpdoicbpiaaGreatZn6G
import Derived.Test.YtoabnpdoicbpiaaGreatWkG
namespace Go.Proofs.YtoabnpdoicbpiaaGreat
set_option linter.unusedVariables false
set_option linter.unusedSimpArgs false
open Go.RowKit Go.Shelf Go.Maps Go.Proofs.YtoabnpdoicbpiaaGreat.Nm
theorem bx3U {w : World} {R : Nat} {T : TypeId} {a b c : Value} (h : Bx w R #[a, b, c] T) : w.cell? ⟨R, 0, none⟩ = some a ∧ w.cell? ⟨R, 1, none⟩ = some b ∧ w.cell? ⟨R, 2, none⟩ = some c ∧ w.frozen? ⟨R, 0, none⟩ = false ∧ w.frozen? ⟨R, 1, none⟩ = false ∧ w.frozen? ⟨R, 2, none⟩ = false :=
 ⟨h.cell rfl, h.cell rfl, h.cell rfl, h.free _, h.free _, h.free _⟩
theorem bx5U {w : World} {R : Nat} {T : TypeId} {a b c d e : Value} (h : Bx w R #[a, b, c, d, e] T) : w.cell? ⟨R, 0, none⟩ = some a ∧ w.cell? ⟨R, 1, none⟩ = some b ∧ w.cell? ⟨R, 2, none⟩ = some c ∧ w.cell? ⟨R, 3, none⟩ = some d ∧ w.cell? ⟨R, 4, none⟩ = some e := ⟨h.cell rfl, h.cell rfl, h.cell rfl, h.cell rfl, h.cell rfl⟩
theorem bx3U_set {w : World} {R : Nat} {T : TypeId} {a b c : Value} (h : Bx w R #[a, b, c] T) (x y z : Value) : Bx (((w.setCell ⟨R, 0, none⟩ x).setCell ⟨R, 1, none⟩ y).setCell ⟨R, 2, none⟩ z) R #[x, y, z] T := ((h.set 0 x).set 1 y).set 2 z
set_option maxRecDepth 100000 in
theorem mapNe (b : Nat) (w : World) : Sem.run Tryz.prog (binOp BinOp.eql 107 (Value.map (some b)) (Value.map none)) w = .ok (.bool false) w := by rfl
set_option maxRecDepth 100000 in
theorem mapEqN (w : World) : Sem.run Tryz.prog (binOp BinOp.eql 107 (Value.map none) (Value.map none)) w = .ok (.bool true) w := by rfl
theorem belowU {n : Nat} {w w' : World} {row : Option Nat} (h : w.grownBy w' row) (hr : ∀ k, row = some k → n ≤ k) (hn : n ≤ w.heap.size) : Below n w w' :=
 ⟨h.os, h.tape, h.output, h.size, fun k hk => h.block k (Nat.lt_of_lt_of_le hk hn) (fun e => by have := hr k e.symm; omega)⟩
theorem mem_modO_self {O : List Uo} {u : Uo} (hu : u ∈ O) (f : List Ust → List Ust) : ({ u with T := f u.T } : Uo) ∈ modO u.o f O := List.mem_map.2 ⟨u, hu, by rw [if_pos rfl]⟩
theorem mem_modT_self {T : List Ust} {s : Ust} (hs : s ∈ T) (g : Ust → Ust) : g s ∈ modT s.t g T := List.mem_map.2 ⟨s, hs, by rw [if_pos rfl]⟩
theorem modT_modT (t : Int) (g1 g2 : Ust → Ust) (h : ∀ s, (g1 s).t = s.t) (T : List Ust) : modT t g2 (modT t g1 T) = modT t (fun s => g2 (g1 s)) T := by
 unfold modT
 rw [List.map_map]
 refine List.map_congr_left (fun s _ => ?_)
 simp only [Function.comp]
 by_cases e : s.t = t
 ·rw [if_pos e, if_pos e, if_pos (by rw [h]; exact e)]
 ·rw [if_neg e, if_neg e, if_neg e]
theorem modO_modO (o : ByteArray) (f1 f2 : List Ust → List Ust) (O : List Uo) : modO o f2 (modO o f1 O) = modO o (fun T => f2 (f1 T)) O := by
 unfold modO
 rw [List.map_map]
 refine List.map_congr_left (fun u _ => ?_)
 simp only [Function.comp]
 by_cases e : u.o = o
 ·simp [e]
 ·simp [e]
theorem Dra.lookT {V : World} {base D M : Nat} {apex : ByteArray} {soa : Rn} {O : List Uo} (h : Dra V base D M apex soa O) {u : Uo} (hu : u ∈ O) {s : Ust} (hs : s ∈ u.T) (hi : uiG s.t) : (Instr.lookup 107 (.map (some u.b)) (.int .i64 s.t) false).run Tryz.prog V = .ok (.pointer (some ⟨s.b, 0, none⟩)) V := by
 have hl := (h.tm u hu).look hi
 have e : upAt s.t u.T = .pointer (some ⟨s.b, 0, none⟩) := by
  unfold upAt
  rw [atK_mem (h.tm u hu).nodup hs]
  rfl
 rw [e] at hl
 exact hl
def CntU (O : List Uo) (a b c : Nat) : Prop := O.length ≤ a ∧ ∀ u ∈ O, u.T.length ≤ b ∧ ∀ s ∈ u.T, s.R.length ≤ c
theorem CntU.mono {O : List Uo} {a b c a' b' c' : Nat} (h : CntU O a b c) (ha : a ≤ a') (hb : b ≤ b') (hc : c ≤ c') : CntU O a' b' c' := ⟨Nat.le_trans h.1 ha, fun u hu => ⟨Nat.le_trans (h.2 u hu).1 hb, fun s hs => Nat.le_trans ((h.2 u hu).2 s hs) hc⟩⟩
theorem CntU.put {O : List Uo} {a b c : Nat} (h : CntU O a b c) (o : ByteArray) (t : Int) (g : Ust → Ust) (hg : ∀ s, (g s).R.length ≤ s.R.length + 1) : CntU (modO o (modT t g) O) a b (c + 1) := by
 refine ⟨by unfold modO; rw [List.length_map]; exact h.1, fun x hx => ?_⟩
 obtain ⟨u, hu, _, _, k⟩ := mem_modO hx
 obtain ⟨h1, h2⟩ := h.2 u hu
 rcases k with ⟨_, k⟩ | ⟨_, k⟩
 ·rw [k]
  refine ⟨by unfold modT; rw [List.length_map]; exact h1, fun s' hs' => ?_⟩
  obtain ⟨s, hs, k2⟩ := mem_modT hs'
  have h3 := h2 s hs
  have h4 := hg s
  rcases k2 with ⟨_, k2⟩ | ⟨_, k2⟩
  ·rw [k2]; omega
  ·rw [k2]; omega
 ·rw [k]
  exact ⟨h1, fun s hs => Nat.le_succ_of_le (h2 s hs)⟩
theorem CntU.addS {O : List Uo} {a b c : Nat} (h : CntU O a b c) (o : ByteArray) (t : Int) (sb m : Nat) : CntU (modO o (fun T => T ++ [⟨t, sb, m, 0, []⟩]) O) a (b + 1) c := by
 refine ⟨by unfold modO; rw [List.length_map]; exact h.1, fun x hx => ?_⟩
 obtain ⟨u, hu, _, _, k⟩ := mem_modO hx
 obtain ⟨h1, h2⟩ := h.2 u hu
 rcases k with ⟨_, k⟩ | ⟨_, k⟩
 ·rw [k]
  refine ⟨by rw [List.length_append, List.length_singleton]; omega, fun s' hs' => ?_⟩
  rcases List.mem_append.1 hs' with q | q
  ·exact h2 s' q
  ·rw [List.mem_singleton.1 q]
   exact Nat.zero_le _
 ·rw [k]
  exact ⟨Nat.le_succ_of_le h1, h2⟩
theorem CntU.addO {O : List Uo} {a b c : Nat} (h : CntU O a b c) (o : ByteArray) (q : Nat) : CntU (O ++ [⟨o, q, []⟩]) (a + 1) b c := by
 refine ⟨by have := h.1; rw [List.length_append, List.length_singleton]; omega, fun u hu => ?_⟩
 rcases List.mem_append.1 hu with hu | hu
 ·exact h.2 u hu
 ·rw [List.mem_singleton.1 hu]
  exact ⟨Nat.zero_le _, fun s hs => by cases hs⟩
theorem outK_le {α κ : Type} [DecidableEq κ] {key : α → κ} {x : κ} {S : List α} {e : α} : (outK key x S ++ [e]).length ≤ S.length + 1 := by
 rw [List.length_append, List.length_singleton]
 exact Nat.succ_le_succ (outK_sub.length_le)
def RkU (w w' : World) : Prop := ∀ g cs, Bx w g cs 29 → Bx w' g cs 29
theorem RkU.trans {a b c : World} (h : RkU a b) (k : RkU b c) : RkU a c := fun g cs hb => k g cs (h g cs hb)
theorem rk_none {w w' : World} (h : w.grownBy w' none) : RkU w w' := fun g cs hb => hb.grown h (by simp)
theorem rk_box {w w' : World} {R : Nat} {cs2 : Array Value} (hs : Bx w R cs2 111) (h : w.grownBy w' (some R)) : RkU w w' := fun g cs hb => hb.apartU hs (by decide) h
theorem rk_map {kt : TypeId} {R : Value → Option (DataW Unit × List MemPlace)} {α κ : Type} {key : α → κ} {kl : κ → Lit} {G : κ → Prop} {dv : α → DataW Unit} {w w' : World} {b : Nat} {S : List α} (hm : Lmap kt R key kl G dv w b S) (h : w.grownBy w' (some b)) : RkU w w' := fun g cs hb => hb.grown h (fun e => map_block hm hb (Option.some.inj e))
def BkU (base : Nat) (w w' : World) : Prop := Below base w w' ∧ RkU w w'
theorem BkU.trans {base : Nat} {a b c : World} (h : BkU base a b) (k : BkU base b c) : BkU base a c := ⟨h.1.trans k.1, h.2.trans k.2⟩
def putUE (w : World) (base D M : Nat) (apex : ByteArray) (soa : Rn) (O : List Uo) (E : List Rn) (r : Rn) (e : Ending) (w' : World) : Prop := e = .returned (.tuple #[]) ∧ (∃ O', Dra w' base D M apex soa O' ∧ Flu O' (putU E r) ∧ ∀ k, CntU O k k k → CntU O' (k + 1) (k + 1) (k + 1)) ∧ BkU base w w'
set_option maxRecDepth 100000 in
set_option maxHeartbeats 8000000 in
theorem putU_there {w : World} {base D M : Nat} {apex o d : ByteArray} {soa : Rn} {O : List Uo} {E : List Rn} {t c l : Int} (h : Dra w base D M apex soa O) (hW : FluW O E (foldB o, t)) (hlo : base ≤ w.heap.size) (ho : o.size ≤ maxLen) (hd : d.size ≤ maxLen) (hx : usG (foldB o)) (hr : usG (foldD t d)) (ht : uiG t) (hR : ∀ u ∈ O, ∀ s ∈ u.T, s.R.length < maxLen) :
  Calls Tryz.prog 58 #[.pointer (some ⟨D, 0, none⟩), .agg #[.string o, .int .i64 t, .int .i64 c, .int .i64 l, .string d]] w (putUE w base D M apex soa O E ⟨o, t, c, l, d⟩) := by
 obtain ⟨u, hu, huo, s, hs, hst⟩ := hW.has
 simp only at huo hst
 have HU : Hid (u ∈ O ∧ s ∈ u.T) := ⟨hu, hs⟩
 have HE : Hid (u.o = foldB o ∧ s.t = t) := ⟨huo, hst⟩
 have HWf := hide' hW
 have HD := hide' h
 have HX := hide' hx
 have HRk := hide' hr
 have HTi := hide' ht
 have HRl := hide' (hR u hu s hs)
 have HLo := hide' hlo
 obtain ⟨wb, hwb⟩ : ∃ v, w.alloc (.cells #[.string o, .int .i64 t, .int .i64 c, .int .i64 l, .string d] 29) = v := ⟨_, rfl⟩
 have HGb : Hid (w.grownBy wb none) := hwb ▸ World.grownBy_alloc w _ none
 have HBb : Hid (Bx wb w.heap.size #[.string o, .int .i64 t, .int .i64 c, .int .i64 l, .string d] 29) := hwb ▸ World.alloc_heap_new w _
 have HSo : Hid (Calls Tryz.prog 38 #[.agg #[.string o, .int .i64 t, .int .i64 c, .int .i64 l, .string d]] wb fun e w' => e = .returned (.agg #[.string (foldB o), .int .i64 t, .string (foldD t d)]) ∧ Below wb.heap.size wb w') := senseOf_any ⟨o, t, c, l, d⟩ wb ho hd
 obtain ⟨c0, c1, c2, c3, c4⟩ := bx5U HBb.out
 clear hu hs huo hst hW h hx hr ht hR hlo ho hd
 go_enter Tryz.func58, Tryz.ntmps58
 go_wp2_with (go_at_call 38; go_loud (refine HSo.out.mono ?_; rintro e1 w1 ⟨rfl, hB1⟩; have HG1 : Hid (w.grownBy w1 none) := (grown_trans HGb.out (grown_below hB1 none)); have HB1 : Hid (Bx w1 w.heap.size #[.string o, .int .i64 t, .int .i64 c, .int .i64 l, .string d] 29) := HBb.out.grown (grown_below hB1 none) (by simp); clear hB1; obtain ⟨wa, ha⟩ : ∃ v, w1.alloc (.cells #[.string ⟨#[]⟩, .int .i64 0, .string ⟨#[]⟩] 83) = v := ⟨_, rfl⟩; have HGa : Hid (w.grownBy wa none) := (grown_trans HG1.out (ha ▸ World.grownBy_alloc w1 _ none)); have HBa : Hid (Bx wa w.heap.size #[.string o, .int .i64 t, .int .i64 c, .int .i64 l, .string d] 29) := HB1.out.grown (ha ▸ World.grownBy_alloc w1 _ none) (by simp); have HXa : Hid (Bx wa w1.heap.size #[.string ⟨#[]⟩, .int .i64 0, .string ⟨#[]⟩] 83) := ha ▸ World.alloc_heap_new w1 _; have HLe : Hid (w.heap.size ≤ w1.heap.size) := HG1.out.size; obtain ⟨z0, z1, z2, f0, f1, f2⟩ := bx3U HXa.out; obtain ⟨w2, hst⟩ : ∃ v, (((wa.setCell ⟨w1.heap.size, 0, none⟩ (.string (foldB o))).setCell ⟨w1.heap.size, 1, none⟩ (.int .i64 t)).setCell ⟨w1.heap.size, 2, none⟩ (.string (foldD t d))) = v := ⟨_, rfl⟩; have HX2 : Hid (Bx w2 w1.heap.size #[.string (foldB o), .int .i64 t, .string (foldD t d)] 83) := hst ▸ bx3U_set HXa.out _ _ _; have HG2 : Hid (w.grownBy w2 none) := hst ▸ grown_far1 (grown_far1 (grown_far1 HGa.out HLe.out 0 _) HLe.out 1 _) HLe.out 2 _; have HB2 : Hid (Bx w2 w.heap.size #[.string o, .int .i64 t, .int .i64 c, .int .i64 l, .string d] 29) := hst ▸ HBa.out.apartU HXa.out (by decide) (grown_trans (grown_trans (grown_set _ _ _ _) (grown_set _ _ _ _)) (grown_set _ _ _ _))))
 have HD2 := hide' (HD.out.idle HG2.out)
 have HQ : Hid (∀ V : World, w2.grownBy V none → V.cell? ⟨D, 6, none⟩ = some (.map (some M)) ∧ V.cell? ⟨w1.heap.size, 0, none⟩ = some (.string (foldB o)) ∧ V.cell? ⟨w1.heap.size, 1, none⟩ = some (.int .i64 t) ∧ (Instr.lookup 70 (.map (some M)) (.string (foldB o)) false).run Tryz.prog V = .ok (.map (some u.b)) V) := fun V hV => by
  have hX := HX2.out.grown hV (by simp)
  have hD := HD2.out.idle hV
  have hl := hD.om.look HX.out
  have e : umAt (foldB o) O = .map (some u.b) := by
   unfold umAt
   rw [← HE.out.1, atK_mem hD.om.nodup HU.out.1]
   rfl
  rw [e] at hl
  exact ⟨hD.bx.cell rfl, hX.cell rfl, hX.cell rfl, hl⟩
 obtain ⟨w3, hw3⟩ : ∃ v, w2.drew = v := ⟨_, rfl⟩
 have HG3 : Hid (w2.grownBy w3 none) := hw3 ▸ ⟨rfl, rfl, rfl, Nat.le_refl _, fun _ _ _ => rfl⟩
 refine wp_region_held_drew (S := fun V => w2.grownBy V none) (by kernel_rfl) ?_ (fun hHeld => ?_)
 ·rw [hw3]; exact HG3.out
 rw [hw3] at hHeld ⊢
 refine takeD 0 (some 8) (.pointer (some ⟨D, 0, none⟩)) rfl rfl (by kernel_rfl) (by kernel_rfl) (by kernel_rfl) (fun _ _ _ h => h) (Or.inl ⟨by rfl, ?_⟩) (by assumption) ?_
 ·intro w hSw; (try dsimp only at hSw); obtain ⟨d6, q0, q1, lk⟩ := HQ.out w hSw; have mn := mapNe u.b w; go_simp <;> (intros; omega)
 simp only [Act.put, List.setIfInBounds_toArray, List.set_cons_zero, List.set_cons_succ]
 refine takeD 1 (some 9) (.pointer (some ⟨D, 0, none⟩)) rfl rfl (by kernel_rfl) (by kernel_rfl) (by kernel_rfl) (fun _ _ _ h => h) (Or.inl ⟨by rfl, ?_⟩) (by assumption) ?_
 ·intro w hSw; (try dsimp only at hSw); obtain ⟨d6, q0, q1, lk⟩ := HQ.out w hSw; have mn := mapNe u.b w; go_simp <;> (intros; omega)
 simp only [Act.put, List.setIfInBounds_toArray, List.set_cons_zero, List.set_cons_succ]
 refine takeD 2 (some 10) (.pointer (some ⟨D, 6, none⟩)) rfl rfl (by kernel_rfl) (by kernel_rfl) (by kernel_rfl) (fun _ _ _ h => h) (Or.inl ⟨by rfl, ?_⟩) (by assumption) ?_
 ·intro w hSw; (try dsimp only at hSw); obtain ⟨d6, q0, q1, lk⟩ := HQ.out w hSw; have mn := mapNe u.b w; go_simp <;> (intros; omega)
 simp only [Act.put, List.setIfInBounds_toArray, List.set_cons_zero, List.set_cons_succ]
 refine takeD 3 (some 11) (.map (some M)) rfl rfl (by kernel_rfl) (by kernel_rfl) (by kernel_rfl) (fun _ _ _ h => h) (Or.inl ⟨by rfl, ?_⟩) (by assumption) ?_
 ·intro w hSw; (try dsimp only at hSw); obtain ⟨d6, q0, q1, lk⟩ := HQ.out w hSw; have mn := mapNe u.b w; go_simp <;> (intros; omega)
 simp only [Act.put, List.setIfInBounds_toArray, List.set_cons_zero, List.set_cons_succ]
 refine takeD 4 (some 12) (.pointer (some ⟨w1.heap.size, 0, none⟩)) rfl rfl (by kernel_rfl) (by kernel_rfl) (by kernel_rfl) (fun _ _ _ h => h) (Or.inl ⟨by rfl, ?_⟩) (by assumption) ?_
 ·intro w hSw; (try dsimp only at hSw); obtain ⟨d6, q0, q1, lk⟩ := HQ.out w hSw; have mn := mapNe u.b w; go_simp <;> (intros; omega)
 simp only [Act.put, List.setIfInBounds_toArray, List.set_cons_zero, List.set_cons_succ]
 refine takeD 5 (some 13) (.string (foldB o)) rfl rfl (by kernel_rfl) (by kernel_rfl) (by kernel_rfl) (fun _ _ _ h => h) (Or.inl ⟨by rfl, ?_⟩) (by assumption) ?_
 ·intro w hSw; (try dsimp only at hSw); obtain ⟨d6, q0, q1, lk⟩ := HQ.out w hSw; have mn := mapNe u.b w; go_simp <;> (intros; omega)
 simp only [Act.put, List.setIfInBounds_toArray, List.set_cons_zero, List.set_cons_succ]
 refine takeD 6 (some 14) (.map (some u.b)) rfl rfl (by kernel_rfl) (by kernel_rfl) (by kernel_rfl) (fun _ _ _ h => h) (Or.inl ⟨by rfl, ?_⟩) (by assumption) ?_
 ·intro w hSw; (try dsimp only at hSw); obtain ⟨d6, q0, q1, lk⟩ := HQ.out w hSw; have mn := mapNe u.b w; go_simp <;> (intros; omega)
 simp only [Act.put, List.setIfInBounds_toArray, List.set_cons_zero, List.set_cons_succ]
 refine takeD 7 (some 15) (.bool false) rfl rfl (by kernel_rfl) (by kernel_rfl) (by kernel_rfl) (fun _ _ _ h => h) (Or.inl ⟨by rfl, ?_⟩) (by assumption) ?_
 ·intro w hSw; (try dsimp only at hSw); obtain ⟨d6, q0, q1, lk⟩ := HQ.out w hSw; have mn := mapNe u.b w; go_simp <;> (intros; omega)
 simp only [Act.put, List.setIfInBounds_toArray, List.set_cons_zero, List.set_cons_succ]
 refine wpAnyH_done (by kernel_rfl) ?_ _
 clear hHeld
 go_wp2_with fail
 obtain ⟨w4, hw4⟩ : ∃ v, w3.drew = v := ⟨_, rfl⟩
 have HG4 : Hid (w2.grownBy w4 none) := hw4 ▸ grown_trans HG3.out ⟨rfl, rfl, rfl, Nat.le_refl _, fun _ _ _ => rfl⟩
 refine wp_region_held_drew (S := fun V => w2.grownBy V none) (by kernel_rfl) ?_ (fun hHeld => ?_)
 ·rw [hw4]; exact HG4.out
 rw [hw4] at hHeld ⊢
 refine takeD 0 (some 23) (.pointer (some ⟨D, 0, none⟩)) rfl rfl (by kernel_rfl) (by kernel_rfl) (by kernel_rfl) (fun _ _ _ h => h) (Or.inl ⟨by rfl, ?_⟩) (by assumption) ?_
 ·intro w hSw; (try dsimp only at hSw); obtain ⟨d6, q0, q1, lk⟩ := HQ.out w hSw; have mn := mapNe u.b w; go_simp <;> (intros; omega)
 simp only [Act.put, List.setIfInBounds_toArray, List.set_cons_zero, List.set_cons_succ]
 refine takeD 1 (some 24) (.pointer (some ⟨D, 0, none⟩)) rfl rfl (by kernel_rfl) (by kernel_rfl) (by kernel_rfl) (fun _ _ _ h => h) (Or.inl ⟨by rfl, ?_⟩) (by assumption) ?_
 ·intro w hSw; (try dsimp only at hSw); obtain ⟨d6, q0, q1, lk⟩ := HQ.out w hSw; have mn := mapNe u.b w; go_simp <;> (intros; omega)
 simp only [Act.put, List.setIfInBounds_toArray, List.set_cons_zero, List.set_cons_succ]
 refine takeD 2 (some 25) (.pointer (some ⟨D, 6, none⟩)) rfl rfl (by kernel_rfl) (by kernel_rfl) (by kernel_rfl) (fun _ _ _ h => h) (Or.inl ⟨by rfl, ?_⟩) (by assumption) ?_
 ·intro w hSw; (try dsimp only at hSw); obtain ⟨d6, q0, q1, lk⟩ := HQ.out w hSw; have mn := mapNe u.b w; go_simp <;> (intros; omega)
 simp only [Act.put, List.setIfInBounds_toArray, List.set_cons_zero, List.set_cons_succ]
 refine takeD 3 (some 26) (.map (some M)) rfl rfl (by kernel_rfl) (by kernel_rfl) (by kernel_rfl) (fun _ _ _ h => h) (Or.inl ⟨by rfl, ?_⟩) (by assumption) ?_
 ·intro w hSw; (try dsimp only at hSw); obtain ⟨d6, q0, q1, lk⟩ := HQ.out w hSw; have mn := mapNe u.b w; go_simp <;> (intros; omega)
 simp only [Act.put, List.setIfInBounds_toArray, List.set_cons_zero, List.set_cons_succ]
 refine takeD 4 (some 27) (.pointer (some ⟨w1.heap.size, 0, none⟩)) rfl rfl (by kernel_rfl) (by kernel_rfl) (by kernel_rfl) (fun _ _ _ h => h) (Or.inl ⟨by rfl, ?_⟩) (by assumption) ?_
 ·intro w hSw; (try dsimp only at hSw); obtain ⟨d6, q0, q1, lk⟩ := HQ.out w hSw; have mn := mapNe u.b w; go_simp <;> (intros; omega)
 simp only [Act.put, List.setIfInBounds_toArray, List.set_cons_zero, List.set_cons_succ]
 refine takeD 5 (some 28) (.string (foldB o)) rfl rfl (by kernel_rfl) (by kernel_rfl) (by kernel_rfl) (fun _ _ _ h => h) (Or.inl ⟨by rfl, ?_⟩) (by assumption) ?_
 ·intro w hSw; (try dsimp only at hSw); obtain ⟨d6, q0, q1, lk⟩ := HQ.out w hSw; have mn := mapNe u.b w; go_simp <;> (intros; omega)
 simp only [Act.put, List.setIfInBounds_toArray, List.set_cons_zero, List.set_cons_succ]
 refine takeD 6 (some 29) (.map (some u.b)) rfl rfl (by kernel_rfl) (by kernel_rfl) (by kernel_rfl) (fun _ _ _ h => h) (Or.inl ⟨by rfl, ?_⟩) (by assumption) ?_
 ·intro w hSw; (try dsimp only at hSw); obtain ⟨d6, q0, q1, lk⟩ := HQ.out w hSw; have mn := mapNe u.b w; go_simp <;> (intros; omega)
 simp only [Act.put, List.setIfInBounds_toArray, List.set_cons_zero, List.set_cons_succ]
 refine takeD 7 (some 5) (.map (some u.b)) rfl rfl (by kernel_rfl) (by kernel_rfl) (by kernel_rfl) (fun _ _ _ h => h) (Or.inl ⟨by rfl, ?_⟩) (by assumption) ?_
 ·intro w hSw; (try dsimp only at hSw); obtain ⟨d6, q0, q1, lk⟩ := HQ.out w hSw; have mn := mapNe u.b w; go_simp <;> (intros; omega)
 simp only [Act.put, List.setIfInBounds_toArray, List.set_cons_zero, List.set_cons_succ]
 refine wpAnyH_done (by kernel_rfl) ?_ _
 clear hHeld
 have HD4 := hide' (HD2.out.idle HG4.out)
 have HB4 : Hid (Bx w4 w.heap.size #[.string o, .int .i64 t, .int .i64 c, .int .i64 l, .string d] 29) := HB2.out.grown HG4.out (by simp)
 have HX4 : Hid (Bx w4 w1.heap.size #[.string (foldB o), .int .i64 t, .string (foldD t d)] 83) := HX2.out.grown HG4.out (by simp)
 have HT : Hid (∀ V, Dra V base D M apex soa O → (Instr.lookup 107 (.map (some u.b)) (.int .i64 t) false).run Tryz.prog V = .ok (.pointer (some ⟨s.b, 0, none⟩)) V) := fun V hV => by
  have hl := (hV.tm u HU.out.1).look HTi.out
  have e : upAt t u.T = .pointer (some ⟨s.b, 0, none⟩) := by
   unfold upAt
   rw [← HE.out.2, atK_mem (hV.tm u HU.out.1).nodup HU.out.2]
   rfl
  rw [e] at hl
  exact hl
 obtain ⟨w5, hw5⟩ : ∃ v, w4.setCell ⟨s.b, 0, none⟩ (.int .i64 l) = v := ⟨_, rfl⟩
 have HS4 := hide' (HD4.out.sb u HU.out.1 s HU.out.2)
 have HG5 : Hid (w4.grownBy w5 (some s.b)) := hw5 ▸ grown_set _ _ _ _
 have HS5 : Hid (Bx w5 s.b #[.int .i64 l, .map (some s.m)] 111) := hw5 ▸ HS4.out.set 0 (.int .i64 l)
 have HD5 := hide' (HD4.out.setAge HU.out.1 HU.out.2 l HS5.out HG5.out)
 have lkT := HT.out w4 HD4.out
 have t0 : w4.cell? ⟨s.b, 0, none⟩ = some (.int .i64 s.age) := HS4.out.cell rfl
 have t0f : w4.frozen? ⟨s.b, 0, none⟩ = false := HS4.out.free _
 have qq : w4.cell? ⟨w1.heap.size, 1, none⟩ = some (.int .i64 t) := HX4.out.cell rfl
 have ql : w4.cell? ⟨w.heap.size, 3, none⟩ = some (.int .i64 l) := HB4.out.cell rfl
 go_wp2_with fail
 clear lkT t0 t0f qq ql
 have HB5 : Hid (Bx w5 w.heap.size #[.string o, .int .i64 t, .int .i64 c, .int .i64 l, .string d] 29) := HB4.out.apartU HS4.out (by decide) HG5.out
 have HX5 : Hid (Bx w5 w1.heap.size #[.string (foldB o), .int .i64 t, .string (foldD t d)] 83) := HX4.out.apartU HS4.out (by decide) HG5.out
 have HM5 : Hid (({ u with T := modT s.t (fun s => { s with age := l }) u.T } : Uo) ∈ modO u.o (modT s.t fun s => { s with age := l }) O ∧ ({ s with age := l } : Ust) ∈ modT s.t (fun s => { s with age := l }) u.T) := ⟨mem_modO_self HU.out.1 _, mem_modT_self HU.out.2 _⟩
 obtain ⟨w6, hw6⟩ : ∃ v, w5.drew = v := ⟨_, rfl⟩
 have HG6 : Hid (w5.grownBy w6 none) := hw6 ▸ ⟨rfl, rfl, rfl, Nat.le_refl _, fun _ _ _ => rfl⟩
 have HD6 := hide' (HD5.out.idle HG6.out)
 have HTt : Hid (uiG s.t) := (by rw [HE.out.2]; exact HTi.out)
 obtain ⟨w7, hrun7, hR7, hg7⟩ : ∃ w', (Instr.mapUpdate 109 (.map (some s.m)) (.string (foldD t d)) (.agg #[.string o, .int .i64 t, .int .i64 c, .int .i64 l, .string d])).run Tryz.prog w6 = .ok () w' ∧ Rmap w' s.m (outK rkS (foldD t d) s.R ++ [(⟨o, t, c, l, d⟩ : Rn)]) ∧ w6.grownBy w' (some s.m) := Rmap.store (HD6.out.rm _ HM5.out.1 _ HM5.out.2) ⟨o, t, c, l, d⟩ HRk.out HRl.out
 have HG7 := hide' hg7
 have HRm6 : Hid (Rmap w6 s.m s.R) := HD6.out.rm _ HM5.out.1 ({ s with age := l } : Ust) HM5.out.2
 have HD7 := hide' (HD6.out.putR HM5.out.1 HM5.out.2 ⟨o, t, c, l, d⟩ hR7 hg7)
 have HK7 : Hid (∀ {q : Nat} {cs : Array Value} {X : TypeId}, Bx w6 q cs X → Bx w7 q cs X) := fun hb => hb.grown HG7.out (fun e => map_block HRm6.out hb (Option.some.inj e))
 have HQ8 : Hid (∀ V : World, (Bx V w.heap.size #[.string o, .int .i64 t, .int .i64 c, .int .i64 l, .string d] 29 ∧ Bx V w1.heap.size #[.string (foldB o), .int .i64 t, .string (foldD t d)] 83 ∧ Bx V s.b #[.int .i64 l, .map (some s.m)] 111) → V.cell? ⟨w1.heap.size, 1, none⟩ = some (.int .i64 t) ∧ V.cell? ⟨w1.heap.size, 2, none⟩ = some (.string (foldD t d)) ∧ V.cell? ⟨s.b, 1, none⟩ = some (.map (some s.m)) ∧ V.cell? ⟨w.heap.size, 0, none⟩ = some (.string o) ∧ V.cell? ⟨w.heap.size, 1, none⟩ = some (.int .i64 t) ∧ V.cell? ⟨w.heap.size, 2, none⟩ = some (.int .i64 c) ∧ V.cell? ⟨w.heap.size, 3, none⟩ = some (.int .i64 l) ∧ V.cell? ⟨w.heap.size, 4, none⟩ = some (.string d)) := fun V hV => ⟨hV.2.1.cell rfl, hV.2.1.cell rfl, hV.2.2.cell rfl, hV.1.cell rfl, hV.1.cell rfl, hV.1.cell rfl, hV.1.cell rfl, hV.1.cell rfl⟩
 have HB6 := hide' (HB5.out.grown HG6.out (by simp))
 have HX6 := hide' (HX5.out.grown HG6.out (by simp))
 have HS6 := hide' (HS5.out.grown HG6.out (by simp))
 have HL6 := hide' (HD6.out.lookT HM5.out.1 HM5.out.2 HTt.out)
 have HL7 := hide' (HD7.out.lookT (mem_modO_self HM5.out.1 _) (mem_modT_self HM5.out.2 _) HTt.out)
 rw [show ({ s with age := l } : Ust).t = t from HE.out.2] at HL6 HL7
 refine wp_region_held_drew (S := fun V => (Bx V w.heap.size #[.string o, .int .i64 t, .int .i64 c, .int .i64 l, .string d] 29 ∧ Bx V w1.heap.size #[.string (foldB o), .int .i64 t, .string (foldD t d)] 83 ∧ Bx V s.b #[.int .i64 l, .map (some s.m)] 111) ∧ (Instr.lookup 107 (.map (some u.b)) (.int .i64 t) false).run Tryz.prog V = .ok (.pointer (some ⟨s.b, 0, none⟩)) V) (by kernel_rfl) ?_ (fun hHeld => ?_)
 ·rw [hw6]; exact ⟨⟨HB6.out, HX6.out, HS6.out⟩, HL6.out⟩
 rw [hw6] at hHeld ⊢
 refine takeD 0 (some 49) (.map (some u.b)) rfl rfl (by kernel_rfl) (by kernel_rfl) (by kernel_rfl) (fun _ _ _ h => h) (Or.inl ⟨by rfl, ?_⟩) (by assumption) ?_
 ·intro w hSw; (try dsimp only at hSw); obtain ⟨hSb, lk⟩ := hSw; obtain ⟨q1, q2, m1, c0, c1, c2, c3, c4⟩ := HQ8.out w hSb; go_simp <;> (intros; omega)
 simp only [Act.put, List.setIfInBounds_toArray, List.set_cons_zero, List.set_cons_succ]
 refine takeD 1 (some 50) (.pointer (some ⟨w1.heap.size, 1, none⟩)) rfl rfl (by kernel_rfl) (by kernel_rfl) (by kernel_rfl) (fun _ _ _ h => h) (Or.inl ⟨by rfl, ?_⟩) (by assumption) ?_
 ·intro w hSw; (try dsimp only at hSw); obtain ⟨hSb, lk⟩ := hSw; obtain ⟨q1, q2, m1, c0, c1, c2, c3, c4⟩ := HQ8.out w hSb; go_simp <;> (intros; omega)
 simp only [Act.put, List.setIfInBounds_toArray, List.set_cons_zero, List.set_cons_succ]
 refine takeD 2 (some 51) (.int .i64 t) rfl rfl (by kernel_rfl) (by kernel_rfl) (by kernel_rfl) (fun _ _ _ h => h) (Or.inl ⟨by rfl, ?_⟩) (by assumption) ?_
 ·intro w hSw; (try dsimp only at hSw); obtain ⟨hSb, lk⟩ := hSw; obtain ⟨q1, q2, m1, c0, c1, c2, c3, c4⟩ := HQ8.out w hSb; go_simp <;> (intros; omega)
 simp only [Act.put, List.setIfInBounds_toArray, List.set_cons_zero, List.set_cons_succ]
 refine takeD 3 (some 52) (.pointer (some ⟨s.b, 0, none⟩)) rfl rfl (by kernel_rfl) (by kernel_rfl) (by kernel_rfl) (fun _ _ _ h => h) (Or.inl ⟨by rfl, ?_⟩) (by assumption) ?_
 ·intro w hSw; (try dsimp only at hSw); obtain ⟨hSb, lk⟩ := hSw; obtain ⟨q1, q2, m1, c0, c1, c2, c3, c4⟩ := HQ8.out w hSb; go_simp <;> (intros; omega)
 simp only [Act.put, List.setIfInBounds_toArray, List.set_cons_zero, List.set_cons_succ]
 refine takeD 4 (some 53) (.pointer (some ⟨s.b, 0, none⟩)) rfl rfl (by kernel_rfl) (by kernel_rfl) (by kernel_rfl) (fun _ _ _ h => h) (Or.inl ⟨by rfl, ?_⟩) (by assumption) ?_
 ·intro w hSw; (try dsimp only at hSw); obtain ⟨hSb, lk⟩ := hSw; obtain ⟨q1, q2, m1, c0, c1, c2, c3, c4⟩ := HQ8.out w hSb; go_simp <;> (intros; omega)
 simp only [Act.put, List.setIfInBounds_toArray, List.set_cons_zero, List.set_cons_succ]
 refine takeD 5 (some 54) (.pointer (some ⟨s.b, 1, none⟩)) rfl rfl (by kernel_rfl) (by kernel_rfl) (by kernel_rfl) (fun _ _ _ h => h) (Or.inl ⟨by rfl, ?_⟩) (by assumption) ?_
 ·intro w hSw; (try dsimp only at hSw); obtain ⟨hSb, lk⟩ := hSw; obtain ⟨q1, q2, m1, c0, c1, c2, c3, c4⟩ := HQ8.out w hSb; go_simp <;> (intros; omega)
 simp only [Act.put, List.setIfInBounds_toArray, List.set_cons_zero, List.set_cons_succ]
 refine takeD 6 (some 55) (.map (some s.m)) rfl rfl (by kernel_rfl) (by kernel_rfl) (by kernel_rfl) (fun _ _ _ h => h) (Or.inl ⟨by rfl, ?_⟩) (by assumption) ?_
 ·intro w hSw; (try dsimp only at hSw); obtain ⟨hSb, lk⟩ := hSw; obtain ⟨q1, q2, m1, c0, c1, c2, c3, c4⟩ := HQ8.out w hSb; go_simp <;> (intros; omega)
 simp only [Act.put, List.setIfInBounds_toArray, List.set_cons_zero, List.set_cons_succ]
 refine takeD 7 (some 56) (.pointer (some ⟨w1.heap.size, 2, none⟩)) rfl rfl (by kernel_rfl) (by kernel_rfl) (by kernel_rfl) (fun _ _ _ h => h) (Or.inl ⟨by rfl, ?_⟩) (by assumption) ?_
 ·intro w hSw; (try dsimp only at hSw); obtain ⟨hSb, lk⟩ := hSw; obtain ⟨q1, q2, m1, c0, c1, c2, c3, c4⟩ := HQ8.out w hSb; go_simp <;> (intros; omega)
 simp only [Act.put, List.setIfInBounds_toArray, List.set_cons_zero, List.set_cons_succ]
 refine takeD 8 (some 57) (.string (foldD t d)) rfl rfl (by kernel_rfl) (by kernel_rfl) (by kernel_rfl) (fun _ _ _ h => h) (Or.inl ⟨by rfl, ?_⟩) (by assumption) ?_
 ·intro w hSw; (try dsimp only at hSw); obtain ⟨hSb, lk⟩ := hSw; obtain ⟨q1, q2, m1, c0, c1, c2, c3, c4⟩ := HQ8.out w hSb; go_simp <;> (intros; omega)
 simp only [Act.put, List.setIfInBounds_toArray, List.set_cons_zero, List.set_cons_succ]
 refine takeD 9 (some 58) (.agg #[.string o, .int .i64 t, .int .i64 c, .int .i64 l, .string d]) rfl rfl (by kernel_rfl) (by kernel_rfl) (by kernel_rfl) (fun _ _ _ h => h) (Or.inl ⟨by rfl, ?_⟩) (by assumption) ?_
 ·intro w hSw; (try dsimp only at hSw); obtain ⟨hSb, lk⟩ := hSw; obtain ⟨q1, q2, m1, c0, c1, c2, c3, c4⟩ := HQ8.out w hSb; go_simp <;> (intros; omega)
 simp only [Act.put, List.setIfInBounds_toArray, List.set_cons_zero, List.set_cons_succ]
 refine wpAnyH_ready (rs := [10]) (by kernel_rfl) (by simp) ?_
 refine AllReadyH.cons rfl (fun K hK => ?_) AllReadyH.nil
 go_simp
 go_wp2_with fail
 refine hK.out _ _ (⟨⟨HK7.out HB6.out, HK7.out HX6.out, HK7.out HS6.out⟩, HL7.out⟩) (fun hHeld => ?_)
 clear hK K
 try simp only [Act.put, List.setIfInBounds_toArray, List.set_cons_zero, List.set_cons_succ]
 refine wpAnyH_done (by kernel_rfl) ?_ _
 clear hHeld
 have HFl := hide' (HWf.out.put ⟨o, t, c, l, d⟩)
 have HOe : Hid (modO u.o (modT s.t fun s' => { s' with R := outK rkS (foldD t d) s'.R ++ [(⟨o, t, c, l, d⟩ : Rn)] }) (modO u.o (modT s.t fun s => { s with age := l }) O) = modO (foldB o) (modT t fun s => { s with age := l, R := outK rkS (foldD t d) s.R ++ [(⟨o, t, c, l, d⟩ : Rn)] }) O) := by
  unfold Hid
  rw [modO_modO, HE.out.1, HE.out.2]
  congr 1
  funext T
  exact modT_modT t (fun s => { s with age := l }) (fun s' => { s' with R := outK rkS (foldD t d) s'.R ++ [(⟨o, t, c, l, d⟩ : Rn)] }) (fun _ => rfl) T
 have HBe : Hid (BkU base w w7) := by
  have l2 := HG2.out.size
  have l4 := HG4.out.size
  have l5 := HG5.out.size
  have l6 := HG6.out.size
  have hlo := HLo.out
  have hml := HD4.out.ml u HU.out.1
  refine ⟨?_, ((((rk_none HG2.out).trans (rk_none HG4.out)).trans (rk_box HS4.out HG5.out)).trans (rk_none HG6.out)).trans (rk_map HRm6.out HG7.out)⟩
  exact ((((belowU HG2.out (fun k e => by cases e) hlo).trans (belowU HG4.out (fun k e => by cases e) (by omega))).trans (belowU HG5.out (fun k e => by injection e with e; rw [← e]; exact (hml.2 s HU.out.2).1) (by omega))).trans (belowU HG6.out (fun k e => by cases e) (by omega))).trans (belowU HG7.out (fun k e => by injection e with e; rw [← e]; exact (hml.2 s HU.out.2).2) (by omega))
 have HCn : Hid (∀ k, CntU O k k k → CntU (modO (foldB o) (modT t fun s => { s with age := l, R := outK rkS (foldD t d) s.R ++ [(⟨o, t, c, l, d⟩ : Rn)] }) O) (k + 1) (k + 1) (k + 1)) := fun k hk => (hk.put (foldB o) t (fun s => { s with age := l, R := outK rkS (foldD t d) s.R ++ [(⟨o, t, c, l, d⟩ : Rn)] }) (fun s => outK_le)).mono (by omega) (by omega) (by omega)
 go_wp2_with fail
 go_end0
 exact ⟨rfl, ⟨_, HOe.out ▸ HD7.out, HFl.out, HCn.out⟩, HBe.out⟩
end Go.Proofs.YtoabnpdoicbpiaaGreat
namespace Go.Proofs.YtoabnpdoicbpiaaGreat
set_option linter.unusedVariables false
set_option linter.unusedSimpArgs false
open Go.RowKit Go.Shelf Go.Maps Go.Proofs.YtoabnpdoicbpiaaGreat.Nm
theorem Flu.weak {O : List Uo} {E : List Rn} {p : ByteArray × Int} (h : Flu O E) (hh : ∃ u ∈ O, u.o = p.1 ∧ ∃ s ∈ u.T, s.t = p.2) : FluW O E p :=
 ⟨h.sen, h.on, h.tn, fun u hu s hs => ⟨(h.rs u hu s hs).1, fun _ => (h.rs u hu s hs).2⟩, h.all, hh⟩
theorem nodup_one {α κ : Type} {key : α → κ} {S : List α} (hn : (S.map key).Nodup) {a b : α} (ha : a ∈ S) (hb : b ∈ S) (e : key a = key b) : a = b := by
 induction S with
 | nil => cases ha
 | cons x S ih =>
  rw [List.map_cons, List.nodup_cons] at hn
  rcases List.mem_cons.1 ha with h1 | h1
  ·rcases List.mem_cons.1 hb with h2 | h2
   ·rw [h1, h2]
   ·exact absurd (List.mem_map.2 ⟨b, h2, by rw [← e, h1]⟩) hn.1
  ·rcases List.mem_cons.1 hb with h2 | h2
   ·exact absurd (List.mem_map.2 ⟨a, h1, by rw [e, h2]⟩) hn.1
   ·exact ih hn.2 h1 h2
theorem Flu.empty {O : List Uo} {E : List Rn} (h : Flu O E) {o : ByteArray} {t : Int} (hn : ∀ u ∈ O, u.o = o → ∀ s ∈ u.T, s.t ≠ t) : (E.filter fun e => decide (plS (senS e) = (o, t))) = [] := by
 refine List.filter_eq_nil_iff.2 (fun e he q => ?_)
 have q := of_decide_eq_true q
 obtain ⟨u, hu, e1, s, hs, e2⟩ := h.all e he
 have q1 : foldB e.o = o := congrArg Prod.fst q
 have q2 : e.t = t := congrArg Prod.snd q
 exact hn u hu (e1.trans q1) s hs (e2.trans q2)
theorem Flu.addS {O : List Uo} {E : List Rn} (h : Flu O E) {u : Uo} (hu : u ∈ O) {t : Int} {sb m : Nat} (hn : ∀ s ∈ u.T, s.t ≠ t) : FluW (modO u.o (fun T => T ++ [⟨t, sb, m, 0, []⟩]) O) E (u.o, t) := by
 have hemp := h.empty (o := u.o) (t := t) (fun v hv e s hs => hn s (by rw [nodup_one h.on hv hu e] at hs; exact hs))
 refine ⟨h.sen, by rw [modO_o]; exact h.on, fun x hx => ?_, fun x hx s' hs' => ?_, fun e he => ?_, ⟨_, mem_modO_self hu _, rfl, ⟨t, sb, m, 0, []⟩, List.mem_append_right _ (List.mem_singleton.2 rfl), rfl⟩⟩
 ·obtain ⟨v, hv, _, _, k⟩ := mem_modO hx
  rcases k with ⟨k0, k⟩ | ⟨_, k⟩
  ·obtain rfl := nodup_one h.on hv hu k0
   rw [k, List.map_append, List.nodup_append]
   refine ⟨h.tn v hv, by simp, fun a ha b hb e => ?_⟩
   obtain ⟨s, hs, rfl⟩ := List.mem_map.1 ha
   have hb : b = t := by simpa using hb
   exact hn s hs (e.trans hb)
  ·rw [k]
   exact h.tn v hv
 ·obtain ⟨v, hv, e1, _, k⟩ := mem_modO hx
  rw [e1]
  rcases k with ⟨k0, k⟩ | ⟨_, k⟩
  ·rw [k] at hs'
   rcases List.mem_append.1 hs' with q | q
   ·exact ⟨(h.rs v hv s' q).1, fun _ => (h.rs v hv s' q).2⟩
   ·rw [List.mem_singleton.1 q]
    refine ⟨?_, fun q2 => absurd (by rw [k0]) q2⟩
    show ([] : List Rn).Perm (E.filter fun e => decide (plS (senS e) = (v.o, t)))
    rw [k0, hemp]
  ·rw [k] at hs'
   exact ⟨(h.rs v hv s' hs').1, fun _ => (h.rs v hv s' hs').2⟩
 ·obtain ⟨v, hv, e1, s, hs, e2⟩ := h.all e he
  refine ⟨_, List.mem_map.2 ⟨v, hv, rfl⟩, ?_, s, ?_, e2⟩
  ·split
   ·exact e1
   ·exact e1
  ·split
   ·exact List.mem_append_left _ hs
   ·exact hs
theorem Flu.addO {O : List Uo} {E : List Rn} (h : Flu O E) {o : ByteArray} {b : Nat} (hn : ∀ u ∈ O, u.o ≠ o) : Flu (O ++ [⟨o, b, []⟩]) E := by
 refine ⟨h.sen, ?_, fun u hu => ?_, fun u hu s hs => ?_, fun e he => ?_⟩
 ·rw [List.map_append, List.nodup_append]
  refine ⟨h.on, by simp, fun a ha c hc e => ?_⟩
  obtain ⟨u, hu, rfl⟩ := List.mem_map.1 ha
  have hc : c = o := by simpa using hc
  exact hn u hu (e.trans hc)
 ·rcases List.mem_append.1 hu with hu | hu
  ·exact h.tn u hu
  ·rw [List.mem_singleton.1 hu]
   simp
 ·rcases List.mem_append.1 hu with hu | hu
  ·exact h.rs u hu s hs
  ·rw [List.mem_singleton.1 hu] at hs
   cases hs
 ·obtain ⟨u, hu, e1, e2⟩ := h.all e he
  exact ⟨u, List.mem_append_left _ hu, e1, e2⟩
end Go.Proofs.YtoabnpdoicbpiaaGreat
namespace Go.Proofs.YtoabnpdoicbpiaaGreat
set_option linter.unusedVariables false
set_option linter.unusedSimpArgs false
open Go.RowKit Go.Shelf Go.Maps Go.Proofs.YtoabnpdoicbpiaaGreat.Nm
set_option maxRecDepth 100000 in
set_option maxHeartbeats 8000000 in
theorem putU_new {w : World} {base D M : Nat} {apex o d : ByteArray} {soa : Rn} {O : List Uo} {E : List Rn} {t c l : Int} (h : Dra w base D M apex soa O) (hF : Flu O E) {u : Uo} (hu : u ∈ O) (huo : u.o = foldB o) (hnt : ∀ s ∈ u.T, s.t ≠ t) (hlo : base ≤ w.heap.size) (ho : o.size ≤ maxLen) (hd : d.size ≤ maxLen) (hx : usG (foldB o)) (hr : usG (foldD t d)) (ht : uiG t) (hTl : u.T.length < maxLen) :
  Calls Tryz.prog 58 #[.pointer (some ⟨D, 0, none⟩), .agg #[.string o, .int .i64 t, .int .i64 c, .int .i64 l, .string d]] w (putUE w base D M apex soa O E ⟨o, t, c, l, d⟩) := by
 have HU : Hid (u ∈ O ∧ u.o = foldB o) := ⟨hu, huo⟩
 have HNt := hide' hnt
 have HFu := hide' hF
 have HTl := hide' hTl
 have HD := hide' h
 have HX := hide' hx
 have HRk := hide' hr
 have HTi := hide' ht
 have HLo := hide' hlo
 obtain ⟨wb, hwb⟩ : ∃ v, w.alloc (.cells #[.string o, .int .i64 t, .int .i64 c, .int .i64 l, .string d] 29) = v := ⟨_, rfl⟩
 have HGb : Hid (w.grownBy wb none) := hwb ▸ World.grownBy_alloc w _ none
 have HBb : Hid (Bx wb w.heap.size #[.string o, .int .i64 t, .int .i64 c, .int .i64 l, .string d] 29) := hwb ▸ World.alloc_heap_new w _
 have HSo : Hid (Calls Tryz.prog 38 #[.agg #[.string o, .int .i64 t, .int .i64 c, .int .i64 l, .string d]] wb fun e w' => e = .returned (.agg #[.string (foldB o), .int .i64 t, .string (foldD t d)]) ∧ Below wb.heap.size wb w') := senseOf_any ⟨o, t, c, l, d⟩ wb ho hd
 obtain ⟨c0, c1, c2, c3, c4⟩ := bx5U HBb.out
 clear hu huo hnt hF hTl h hx hr ht hlo ho hd
 go_enter Tryz.func58, Tryz.ntmps58
 go_wp2_with (go_at_call 38; go_loud (refine HSo.out.mono ?_; rintro e1 w1 ⟨rfl, hB1⟩; have HG1 : Hid (w.grownBy w1 none) := (grown_trans HGb.out (grown_below hB1 none)); have HB1 : Hid (Bx w1 w.heap.size #[.string o, .int .i64 t, .int .i64 c, .int .i64 l, .string d] 29) := HBb.out.grown (grown_below hB1 none) (by simp); clear hB1; obtain ⟨wa, ha⟩ : ∃ v, w1.alloc (.cells #[.string ⟨#[]⟩, .int .i64 0, .string ⟨#[]⟩] 83) = v := ⟨_, rfl⟩; have HGa : Hid (w.grownBy wa none) := (grown_trans HG1.out (ha ▸ World.grownBy_alloc w1 _ none)); have HBa : Hid (Bx wa w.heap.size #[.string o, .int .i64 t, .int .i64 c, .int .i64 l, .string d] 29) := HB1.out.grown (ha ▸ World.grownBy_alloc w1 _ none) (by simp); have HXa : Hid (Bx wa w1.heap.size #[.string ⟨#[]⟩, .int .i64 0, .string ⟨#[]⟩] 83) := ha ▸ World.alloc_heap_new w1 _; have HLe : Hid (w.heap.size ≤ w1.heap.size) := HG1.out.size; obtain ⟨z0, z1, z2, f0, f1, f2⟩ := bx3U HXa.out; obtain ⟨w2, hst⟩ : ∃ v, (((wa.setCell ⟨w1.heap.size, 0, none⟩ (.string (foldB o))).setCell ⟨w1.heap.size, 1, none⟩ (.int .i64 t)).setCell ⟨w1.heap.size, 2, none⟩ (.string (foldD t d))) = v := ⟨_, rfl⟩; have HX2 : Hid (Bx w2 w1.heap.size #[.string (foldB o), .int .i64 t, .string (foldD t d)] 83) := hst ▸ bx3U_set HXa.out _ _ _; have HG2 : Hid (w.grownBy w2 none) := hst ▸ grown_far1 (grown_far1 (grown_far1 HGa.out HLe.out 0 _) HLe.out 1 _) HLe.out 2 _; have HB2 : Hid (Bx w2 w.heap.size #[.string o, .int .i64 t, .int .i64 c, .int .i64 l, .string d] 29) := hst ▸ HBa.out.apartU HXa.out (by decide) (grown_trans (grown_trans (grown_set _ _ _ _) (grown_set _ _ _ _)) (grown_set _ _ _ _))))
 have HD2 := hide' (HD.out.idle HG2.out)
 have HQ : Hid (∀ V : World, w2.grownBy V none → V.cell? ⟨D, 6, none⟩ = some (.map (some M)) ∧ V.cell? ⟨w1.heap.size, 0, none⟩ = some (.string (foldB o)) ∧ V.cell? ⟨w1.heap.size, 1, none⟩ = some (.int .i64 t) ∧ (Instr.lookup 70 (.map (some M)) (.string (foldB o)) false).run Tryz.prog V = .ok (.map (some u.b)) V) := fun V hV => by
  have hX := HX2.out.grown hV (by simp)
  have hD := HD2.out.idle hV
  have hl := hD.om.look HX.out
  have e : umAt (foldB o) O = .map (some u.b) := by
   unfold umAt
   rw [← HU.out.2, atK_mem hD.om.nodup HU.out.1]
   rfl
  rw [e] at hl
  exact ⟨hD.bx.cell rfl, hX.cell rfl, hX.cell rfl, hl⟩
 obtain ⟨w3, hw3⟩ : ∃ v, w2.drew = v := ⟨_, rfl⟩
 have HG3 : Hid (w2.grownBy w3 none) := hw3 ▸ ⟨rfl, rfl, rfl, Nat.le_refl _, fun _ _ _ => rfl⟩
 refine wp_region_held_drew (S := fun V => w2.grownBy V none) (by kernel_rfl) ?_ (fun hHeld => ?_)
 ·rw [hw3]; exact HG3.out
 rw [hw3] at hHeld ⊢
 refine takeD 0 (some 8) (.pointer (some ⟨D, 0, none⟩)) rfl rfl (by kernel_rfl) (by kernel_rfl) (by kernel_rfl) (fun _ _ _ h => h) (Or.inl ⟨by rfl, ?_⟩) (by assumption) ?_
 ·intro w hSw; (try dsimp only at hSw); obtain ⟨d6, q0, q1, lk⟩ := HQ.out w hSw; have mn := mapNe u.b w; go_simp <;> (intros; omega)
 simp only [Act.put, List.setIfInBounds_toArray, List.set_cons_zero, List.set_cons_succ]
 refine takeD 1 (some 9) (.pointer (some ⟨D, 0, none⟩)) rfl rfl (by kernel_rfl) (by kernel_rfl) (by kernel_rfl) (fun _ _ _ h => h) (Or.inl ⟨by rfl, ?_⟩) (by assumption) ?_
 ·intro w hSw; (try dsimp only at hSw); obtain ⟨d6, q0, q1, lk⟩ := HQ.out w hSw; have mn := mapNe u.b w; go_simp <;> (intros; omega)
 simp only [Act.put, List.setIfInBounds_toArray, List.set_cons_zero, List.set_cons_succ]
 refine takeD 2 (some 10) (.pointer (some ⟨D, 6, none⟩)) rfl rfl (by kernel_rfl) (by kernel_rfl) (by kernel_rfl) (fun _ _ _ h => h) (Or.inl ⟨by rfl, ?_⟩) (by assumption) ?_
 ·intro w hSw; (try dsimp only at hSw); obtain ⟨d6, q0, q1, lk⟩ := HQ.out w hSw; have mn := mapNe u.b w; go_simp <;> (intros; omega)
 simp only [Act.put, List.setIfInBounds_toArray, List.set_cons_zero, List.set_cons_succ]
 refine takeD 3 (some 11) (.map (some M)) rfl rfl (by kernel_rfl) (by kernel_rfl) (by kernel_rfl) (fun _ _ _ h => h) (Or.inl ⟨by rfl, ?_⟩) (by assumption) ?_
 ·intro w hSw; (try dsimp only at hSw); obtain ⟨d6, q0, q1, lk⟩ := HQ.out w hSw; have mn := mapNe u.b w; go_simp <;> (intros; omega)
 simp only [Act.put, List.setIfInBounds_toArray, List.set_cons_zero, List.set_cons_succ]
 refine takeD 4 (some 12) (.pointer (some ⟨w1.heap.size, 0, none⟩)) rfl rfl (by kernel_rfl) (by kernel_rfl) (by kernel_rfl) (fun _ _ _ h => h) (Or.inl ⟨by rfl, ?_⟩) (by assumption) ?_
 ·intro w hSw; (try dsimp only at hSw); obtain ⟨d6, q0, q1, lk⟩ := HQ.out w hSw; have mn := mapNe u.b w; go_simp <;> (intros; omega)
 simp only [Act.put, List.setIfInBounds_toArray, List.set_cons_zero, List.set_cons_succ]
 refine takeD 5 (some 13) (.string (foldB o)) rfl rfl (by kernel_rfl) (by kernel_rfl) (by kernel_rfl) (fun _ _ _ h => h) (Or.inl ⟨by rfl, ?_⟩) (by assumption) ?_
 ·intro w hSw; (try dsimp only at hSw); obtain ⟨d6, q0, q1, lk⟩ := HQ.out w hSw; have mn := mapNe u.b w; go_simp <;> (intros; omega)
 simp only [Act.put, List.setIfInBounds_toArray, List.set_cons_zero, List.set_cons_succ]
 refine takeD 6 (some 14) (.map (some u.b)) rfl rfl (by kernel_rfl) (by kernel_rfl) (by kernel_rfl) (fun _ _ _ h => h) (Or.inl ⟨by rfl, ?_⟩) (by assumption) ?_
 ·intro w hSw; (try dsimp only at hSw); obtain ⟨d6, q0, q1, lk⟩ := HQ.out w hSw; have mn := mapNe u.b w; go_simp <;> (intros; omega)
 simp only [Act.put, List.setIfInBounds_toArray, List.set_cons_zero, List.set_cons_succ]
 refine takeD 7 (some 15) (.bool false) rfl rfl (by kernel_rfl) (by kernel_rfl) (by kernel_rfl) (fun _ _ _ h => h) (Or.inl ⟨by rfl, ?_⟩) (by assumption) ?_
 ·intro w hSw; (try dsimp only at hSw); obtain ⟨d6, q0, q1, lk⟩ := HQ.out w hSw; have mn := mapNe u.b w; go_simp <;> (intros; omega)
 simp only [Act.put, List.setIfInBounds_toArray, List.set_cons_zero, List.set_cons_succ]
 refine wpAnyH_done (by kernel_rfl) ?_ _
 clear hHeld
 go_wp2_with fail
 obtain ⟨w4, hw4⟩ : ∃ v, w3.drew = v := ⟨_, rfl⟩
 have HG4 : Hid (w2.grownBy w4 none) := hw4 ▸ grown_trans HG3.out ⟨rfl, rfl, rfl, Nat.le_refl _, fun _ _ _ => rfl⟩
 refine wp_region_held_drew (S := fun V => w2.grownBy V none) (by kernel_rfl) ?_ (fun hHeld => ?_)
 ·rw [hw4]; exact HG4.out
 rw [hw4] at hHeld ⊢
 refine takeD 0 (some 23) (.pointer (some ⟨D, 0, none⟩)) rfl rfl (by kernel_rfl) (by kernel_rfl) (by kernel_rfl) (fun _ _ _ h => h) (Or.inl ⟨by rfl, ?_⟩) (by assumption) ?_
 ·intro w hSw; (try dsimp only at hSw); obtain ⟨d6, q0, q1, lk⟩ := HQ.out w hSw; have mn := mapNe u.b w; go_simp <;> (intros; omega)
 simp only [Act.put, List.setIfInBounds_toArray, List.set_cons_zero, List.set_cons_succ]
 refine takeD 1 (some 24) (.pointer (some ⟨D, 0, none⟩)) rfl rfl (by kernel_rfl) (by kernel_rfl) (by kernel_rfl) (fun _ _ _ h => h) (Or.inl ⟨by rfl, ?_⟩) (by assumption) ?_
 ·intro w hSw; (try dsimp only at hSw); obtain ⟨d6, q0, q1, lk⟩ := HQ.out w hSw; have mn := mapNe u.b w; go_simp <;> (intros; omega)
 simp only [Act.put, List.setIfInBounds_toArray, List.set_cons_zero, List.set_cons_succ]
 refine takeD 2 (some 25) (.pointer (some ⟨D, 6, none⟩)) rfl rfl (by kernel_rfl) (by kernel_rfl) (by kernel_rfl) (fun _ _ _ h => h) (Or.inl ⟨by rfl, ?_⟩) (by assumption) ?_
 ·intro w hSw; (try dsimp only at hSw); obtain ⟨d6, q0, q1, lk⟩ := HQ.out w hSw; have mn := mapNe u.b w; go_simp <;> (intros; omega)
 simp only [Act.put, List.setIfInBounds_toArray, List.set_cons_zero, List.set_cons_succ]
 refine takeD 3 (some 26) (.map (some M)) rfl rfl (by kernel_rfl) (by kernel_rfl) (by kernel_rfl) (fun _ _ _ h => h) (Or.inl ⟨by rfl, ?_⟩) (by assumption) ?_
 ·intro w hSw; (try dsimp only at hSw); obtain ⟨d6, q0, q1, lk⟩ := HQ.out w hSw; have mn := mapNe u.b w; go_simp <;> (intros; omega)
 simp only [Act.put, List.setIfInBounds_toArray, List.set_cons_zero, List.set_cons_succ]
 refine takeD 4 (some 27) (.pointer (some ⟨w1.heap.size, 0, none⟩)) rfl rfl (by kernel_rfl) (by kernel_rfl) (by kernel_rfl) (fun _ _ _ h => h) (Or.inl ⟨by rfl, ?_⟩) (by assumption) ?_
 ·intro w hSw; (try dsimp only at hSw); obtain ⟨d6, q0, q1, lk⟩ := HQ.out w hSw; have mn := mapNe u.b w; go_simp <;> (intros; omega)
 simp only [Act.put, List.setIfInBounds_toArray, List.set_cons_zero, List.set_cons_succ]
 refine takeD 5 (some 28) (.string (foldB o)) rfl rfl (by kernel_rfl) (by kernel_rfl) (by kernel_rfl) (fun _ _ _ h => h) (Or.inl ⟨by rfl, ?_⟩) (by assumption) ?_
 ·intro w hSw; (try dsimp only at hSw); obtain ⟨d6, q0, q1, lk⟩ := HQ.out w hSw; have mn := mapNe u.b w; go_simp <;> (intros; omega)
 simp only [Act.put, List.setIfInBounds_toArray, List.set_cons_zero, List.set_cons_succ]
 refine takeD 6 (some 29) (.map (some u.b)) rfl rfl (by kernel_rfl) (by kernel_rfl) (by kernel_rfl) (fun _ _ _ h => h) (Or.inl ⟨by rfl, ?_⟩) (by assumption) ?_
 ·intro w hSw; (try dsimp only at hSw); obtain ⟨d6, q0, q1, lk⟩ := HQ.out w hSw; have mn := mapNe u.b w; go_simp <;> (intros; omega)
 simp only [Act.put, List.setIfInBounds_toArray, List.set_cons_zero, List.set_cons_succ]
 refine takeD 7 (some 5) (.map (some u.b)) rfl rfl (by kernel_rfl) (by kernel_rfl) (by kernel_rfl) (fun _ _ _ h => h) (Or.inl ⟨by rfl, ?_⟩) (by assumption) ?_
 ·intro w hSw; (try dsimp only at hSw); obtain ⟨d6, q0, q1, lk⟩ := HQ.out w hSw; have mn := mapNe u.b w; go_simp <;> (intros; omega)
 simp only [Act.put, List.setIfInBounds_toArray, List.set_cons_zero, List.set_cons_succ]
 refine wpAnyH_done (by kernel_rfl) ?_ _
 clear hHeld
 have HD4 := hide' (HD2.out.idle HG4.out)
 have HB4 : Hid (Bx w4 w.heap.size #[.string o, .int .i64 t, .int .i64 c, .int .i64 l, .string d] 29) := HB2.out.grown HG4.out (by simp)
 have HX4 : Hid (Bx w4 w1.heap.size #[.string (foldB o), .int .i64 t, .string (foldD t d)] 83) := HX2.out.grown HG4.out (by simp)
 have lkN : (Instr.lookup 107 (.map (some u.b)) (.int .i64 t) false).run Tryz.prog w4 = .ok (.pointer none) w4 := by
  have hl := (HD4.out.tm u HU.out.1).look HTi.out
  have e : upAt t u.T = .pointer none := by
   unfold upAt
   rw [atK_none.2 HNt.out]
   rfl
  rw [e] at hl
  exact hl
 obtain ⟨wm, hm⟩ : ∃ v, w4.alloc (.map #[] 0) = v := ⟨_, rfl⟩
 have mkm : (Instr.makeMap 109 none).run Tryz.prog w4 = .ok (.map (some w4.heap.size)) wm := by
  rw [← hm]
  simp [Instr.makeMap, run_underlying Tryz.underlying109, newObj]
  rfl
 have HGm : Hid (w4.grownBy wm none) := hm ▸ World.grownBy_alloc w4 _ none
 have HRm : Hid (Rmap wm w4.heap.size []) := hm ▸ Lmap.made w4
 obtain ⟨wn, hn⟩ : ∃ v, wm.alloc (.cells #[.int .i64 0, .map (some w4.heap.size)] 111) = v := ⟨_, rfl⟩
 have HGn : Hid (w4.grownBy wn none) := grown_trans HGm.out (hn ▸ World.grownBy_alloc wm _ none)
 have HRn : Hid (Rmap wn w4.heap.size []) := HRm.out.kept (hn ▸ World.grownBy_alloc wm _ none) (by simp)
 have HBn : Hid (Bx wn wm.heap.size #[.int .i64 0, .map (some w4.heap.size)] 111) := hn ▸ World.alloc_heap_new wm _
 have HLn : Hid (w4.heap.size ≤ wm.heap.size) := HGm.out.size
 have HDn := hide' (HD4.out.idle HGn.out)
 obtain ⟨wS, hrunS, hTS, hgS⟩ : ∃ w', (Instr.mapUpdate 107 (.map (some u.b)) (.int .i64 t) (.pointer (some ⟨wm.heap.size, 0, none⟩))).run Tryz.prog wn = .ok () w' ∧ Tmap w' u.b (outK Ust.t t u.T ++ [(⟨t, wm.heap.size, w4.heap.size, 0, []⟩ : Ust)]) ∧ wn.grownBy w' (some u.b) := Tmap.store (HDn.out.tm u HU.out.1) ⟨t, wm.heap.size, w4.heap.size, 0, []⟩ HTi.out HTl.out
 rw [outK_none HNt.out] at hTS
 have HGS := hide' hgS
 have HLo4 : Hid (base ≤ w4.heap.size) := by have h1 := HLo.out; have h2 := HG2.out.size; have h3 := HG4.out.size; unfold Hid; omega
 have HDS := hide' (HD4.out.addS HU.out.1 HLo4.out HGn.out HRn.out HBn.out HLn.out (Nat.le_refl _) hTS hgS)
 have HMS : Hid (({ u with T := u.T ++ [⟨t, wm.heap.size, w4.heap.size, 0, []⟩] } : Uo) ∈ (modO u.o (fun T => T ++ [⟨t, wm.heap.size, w4.heap.size, 0, []⟩]) O) ∧ (⟨t, wm.heap.size, w4.heap.size, 0, []⟩ : Ust) ∈ ({ u with T := u.T ++ [⟨t, wm.heap.size, w4.heap.size, 0, []⟩] } : Uo).T) := ⟨mem_modO_self HU.out.1 _, List.mem_append_right _ (List.mem_singleton.2 rfl)⟩
 have HWf : Hid (FluW (modO u.o (fun T => T ++ [⟨t, wm.heap.size, w4.heap.size, 0, []⟩]) O) E (foldB o, t)) := HU.out.2 ▸ HFu.out.addS HU.out.1 HNt.out
 have HKS : Hid (∀ {q : Nat} {cs : Array Value} {X : TypeId}, Bx wn q cs X → Bx wS q cs X) := fun hb => hb.grown HGS.out (fun e => map_block (HDn.out.tm u HU.out.1) hb (Option.some.inj e))
 have HS4 : Hid (Bx wS wm.heap.size #[.int .i64 0, .map (some w4.heap.size)] 111) := HKS.out HBn.out
 have HBS : Hid (Bx wS w.heap.size #[.string o, .int .i64 t, .int .i64 c, .int .i64 l, .string d] 29) := HKS.out (HB4.out.grown HGn.out (by simp))
 have HXS : Hid (Bx wS w1.heap.size #[.string (foldB o), .int .i64 t, .string (foldD t d)] 83) := HKS.out (HX4.out.grown HGn.out (by simp))
 obtain ⟨w5, hw5⟩ : ∃ v, wS.setCell ⟨wm.heap.size, 0, none⟩ (.int .i64 l) = v := ⟨_, rfl⟩
 have HG5 : Hid (wS.grownBy w5 (some wm.heap.size)) := hw5 ▸ grown_set _ _ _ _
 have HS5 : Hid (Bx w5 wm.heap.size #[.int .i64 l, .map (some w4.heap.size)] 111) := hw5 ▸ HS4.out.set 0 (.int .i64 l)
 have HD5 := hide' (HDS.out.setAge HMS.out.1 HMS.out.2 l HS5.out HG5.out)
 have lkT : (Instr.lookup 107 (.map (some u.b)) (.int .i64 t) false).run Tryz.prog wS = .ok (.pointer (some ⟨wm.heap.size, 0, none⟩)) wS := HDS.out.lookT HMS.out.1 HMS.out.2 HTi.out
 have t0 : wS.cell? ⟨wm.heap.size, 0, none⟩ = some (.int .i64 0) := HS4.out.cell rfl
 have t0f : wS.frozen? ⟨wm.heap.size, 0, none⟩ = false := HS4.out.free _
 have qq4 : w4.cell? ⟨w1.heap.size, 1, none⟩ = some (.int .i64 t) := HX4.out.cell rfl
 have qqS : wS.cell? ⟨w1.heap.size, 1, none⟩ = some (.int .i64 t) := HXS.out.cell rfl
 have ql : wS.cell? ⟨w.heap.size, 3, none⟩ = some (.int .i64 l) := HBS.out.cell rfl
 go_wp2_with fail
 clear mkm lkT lkN t0 t0f qq4 qqS ql
 have HB5 : Hid (Bx w5 w.heap.size #[.string o, .int .i64 t, .int .i64 c, .int .i64 l, .string d] 29) := HBS.out.apartU HS4.out (by decide) HG5.out
 have HX5 : Hid (Bx w5 w1.heap.size #[.string (foldB o), .int .i64 t, .string (foldD t d)] 83) := HXS.out.apartU HS4.out (by decide) HG5.out
 have HM5 : Hid (({ u with T := modT t (fun s => { s with age := l }) (u.T ++ [⟨t, wm.heap.size, w4.heap.size, 0, []⟩]) } : Uo) ∈ modO u.o (modT t fun s => { s with age := l }) (modO u.o (fun T => T ++ [⟨t, wm.heap.size, w4.heap.size, 0, []⟩]) O) ∧ (⟨t, wm.heap.size, w4.heap.size, l, []⟩ : Ust) ∈ modT t (fun s => { s with age := l }) (u.T ++ [⟨t, wm.heap.size, w4.heap.size, 0, []⟩])) := ⟨mem_modO_self HMS.out.1 _, mem_modT_self HMS.out.2 _⟩
 obtain ⟨w6, hw6⟩ : ∃ v, w5.drew = v := ⟨_, rfl⟩
 have HG6 : Hid (w5.grownBy w6 none) := hw6 ▸ ⟨rfl, rfl, rfl, Nat.le_refl _, fun _ _ _ => rfl⟩
 have HD6 := hide' (HD5.out.idle HG6.out)
 have HTt : Hid (uiG t) := HTi.out
 obtain ⟨w7, hrun7, hR7, hg7⟩ : ∃ w', (Instr.mapUpdate 109 (.map (some w4.heap.size)) (.string (foldD t d)) (.agg #[.string o, .int .i64 t, .int .i64 c, .int .i64 l, .string d])).run Tryz.prog w6 = .ok () w' ∧ Rmap w' w4.heap.size (outK rkS (foldD t d) [] ++ [(⟨o, t, c, l, d⟩ : Rn)]) ∧ w6.grownBy w' (some w4.heap.size) := Rmap.store (HD6.out.rm _ HM5.out.1 _ HM5.out.2) ⟨o, t, c, l, d⟩ HRk.out (by unfold maxLen; simp)
 have HG7 := hide' hg7
 have HRm6 : Hid (Rmap w6 w4.heap.size []) := HD6.out.rm _ HM5.out.1 (⟨t, wm.heap.size, w4.heap.size, l, []⟩ : Ust) HM5.out.2
 have HD7 := hide' (HD6.out.putR HM5.out.1 HM5.out.2 ⟨o, t, c, l, d⟩ hR7 hg7)
 have HK7 : Hid (∀ {q : Nat} {cs : Array Value} {X : TypeId}, Bx w6 q cs X → Bx w7 q cs X) := fun hb => hb.grown HG7.out (fun e => map_block HRm6.out hb (Option.some.inj e))
 have HQ8 : Hid (∀ V : World, (Bx V w.heap.size #[.string o, .int .i64 t, .int .i64 c, .int .i64 l, .string d] 29 ∧ Bx V w1.heap.size #[.string (foldB o), .int .i64 t, .string (foldD t d)] 83 ∧ Bx V wm.heap.size #[.int .i64 l, .map (some w4.heap.size)] 111) → V.cell? ⟨w1.heap.size, 1, none⟩ = some (.int .i64 t) ∧ V.cell? ⟨w1.heap.size, 2, none⟩ = some (.string (foldD t d)) ∧ V.cell? ⟨wm.heap.size, 1, none⟩ = some (.map (some w4.heap.size)) ∧ V.cell? ⟨w.heap.size, 0, none⟩ = some (.string o) ∧ V.cell? ⟨w.heap.size, 1, none⟩ = some (.int .i64 t) ∧ V.cell? ⟨w.heap.size, 2, none⟩ = some (.int .i64 c) ∧ V.cell? ⟨w.heap.size, 3, none⟩ = some (.int .i64 l) ∧ V.cell? ⟨w.heap.size, 4, none⟩ = some (.string d)) := fun V hV => ⟨hV.2.1.cell rfl, hV.2.1.cell rfl, hV.2.2.cell rfl, hV.1.cell rfl, hV.1.cell rfl, hV.1.cell rfl, hV.1.cell rfl, hV.1.cell rfl⟩
 have HB6 := hide' (HB5.out.grown HG6.out (by simp))
 have HX6 := hide' (HX5.out.grown HG6.out (by simp))
 have HS6 := hide' (HS5.out.grown HG6.out (by simp))
 have HL6 : Hid ((Instr.lookup 107 (.map (some u.b)) (.int .i64 t) false).run Tryz.prog w6 = .ok (.pointer (some ⟨wm.heap.size, 0, none⟩)) w6) := (HD6.out.lookT HM5.out.1 HM5.out.2 HTt.out)
 have HL7 : Hid ((Instr.lookup 107 (.map (some u.b)) (.int .i64 t) false).run Tryz.prog w7 = .ok (.pointer (some ⟨wm.heap.size, 0, none⟩)) w7) := (HD7.out.lookT (mem_modO_self HM5.out.1 _) (mem_modT_self HM5.out.2 _) HTt.out)
 refine wp_region_held_drew (S := fun V => (Bx V w.heap.size #[.string o, .int .i64 t, .int .i64 c, .int .i64 l, .string d] 29 ∧ Bx V w1.heap.size #[.string (foldB o), .int .i64 t, .string (foldD t d)] 83 ∧ Bx V wm.heap.size #[.int .i64 l, .map (some w4.heap.size)] 111) ∧ (Instr.lookup 107 (.map (some u.b)) (.int .i64 t) false).run Tryz.prog V = .ok (.pointer (some ⟨wm.heap.size, 0, none⟩)) V) (by kernel_rfl) ?_ (fun hHeld => ?_)
 ·rw [hw6]; exact ⟨⟨HB6.out, HX6.out, HS6.out⟩, HL6.out⟩
 rw [hw6] at hHeld ⊢
 refine takeD 0 (some 49) (.map (some u.b)) rfl rfl (by kernel_rfl) (by kernel_rfl) (by kernel_rfl) (fun _ _ _ h => h) (Or.inl ⟨by rfl, ?_⟩) (by assumption) ?_
 ·intro w hSw; (try dsimp only at hSw); obtain ⟨hSb, lk⟩ := hSw; obtain ⟨q1, q2, m1, c0, c1, c2, c3, c4⟩ := HQ8.out w hSb; go_simp <;> (intros; omega)
 simp only [Act.put, List.setIfInBounds_toArray, List.set_cons_zero, List.set_cons_succ]
 refine takeD 1 (some 50) (.pointer (some ⟨w1.heap.size, 1, none⟩)) rfl rfl (by kernel_rfl) (by kernel_rfl) (by kernel_rfl) (fun _ _ _ h => h) (Or.inl ⟨by rfl, ?_⟩) (by assumption) ?_
 ·intro w hSw; (try dsimp only at hSw); obtain ⟨hSb, lk⟩ := hSw; obtain ⟨q1, q2, m1, c0, c1, c2, c3, c4⟩ := HQ8.out w hSb; go_simp <;> (intros; omega)
 simp only [Act.put, List.setIfInBounds_toArray, List.set_cons_zero, List.set_cons_succ]
 refine takeD 2 (some 51) (.int .i64 t) rfl rfl (by kernel_rfl) (by kernel_rfl) (by kernel_rfl) (fun _ _ _ h => h) (Or.inl ⟨by rfl, ?_⟩) (by assumption) ?_
 ·intro w hSw; (try dsimp only at hSw); obtain ⟨hSb, lk⟩ := hSw; obtain ⟨q1, q2, m1, c0, c1, c2, c3, c4⟩ := HQ8.out w hSb; go_simp <;> (intros; omega)
 simp only [Act.put, List.setIfInBounds_toArray, List.set_cons_zero, List.set_cons_succ]
 refine takeD 3 (some 52) (.pointer (some ⟨wm.heap.size, 0, none⟩)) rfl rfl (by kernel_rfl) (by kernel_rfl) (by kernel_rfl) (fun _ _ _ h => h) (Or.inl ⟨by rfl, ?_⟩) (by assumption) ?_
 ·intro w hSw; (try dsimp only at hSw); obtain ⟨hSb, lk⟩ := hSw; obtain ⟨q1, q2, m1, c0, c1, c2, c3, c4⟩ := HQ8.out w hSb; go_simp <;> (intros; omega)
 simp only [Act.put, List.setIfInBounds_toArray, List.set_cons_zero, List.set_cons_succ]
 refine takeD 4 (some 53) (.pointer (some ⟨wm.heap.size, 0, none⟩)) rfl rfl (by kernel_rfl) (by kernel_rfl) (by kernel_rfl) (fun _ _ _ h => h) (Or.inl ⟨by rfl, ?_⟩) (by assumption) ?_
 ·intro w hSw; (try dsimp only at hSw); obtain ⟨hSb, lk⟩ := hSw; obtain ⟨q1, q2, m1, c0, c1, c2, c3, c4⟩ := HQ8.out w hSb; go_simp <;> (intros; omega)
 simp only [Act.put, List.setIfInBounds_toArray, List.set_cons_zero, List.set_cons_succ]
 refine takeD 5 (some 54) (.pointer (some ⟨wm.heap.size, 1, none⟩)) rfl rfl (by kernel_rfl) (by kernel_rfl) (by kernel_rfl) (fun _ _ _ h => h) (Or.inl ⟨by rfl, ?_⟩) (by assumption) ?_
 ·intro w hSw; (try dsimp only at hSw); obtain ⟨hSb, lk⟩ := hSw; obtain ⟨q1, q2, m1, c0, c1, c2, c3, c4⟩ := HQ8.out w hSb; go_simp <;> (intros; omega)
 simp only [Act.put, List.setIfInBounds_toArray, List.set_cons_zero, List.set_cons_succ]
 refine takeD 6 (some 55) (.map (some w4.heap.size)) rfl rfl (by kernel_rfl) (by kernel_rfl) (by kernel_rfl) (fun _ _ _ h => h) (Or.inl ⟨by rfl, ?_⟩) (by assumption) ?_
 ·intro w hSw; (try dsimp only at hSw); obtain ⟨hSb, lk⟩ := hSw; obtain ⟨q1, q2, m1, c0, c1, c2, c3, c4⟩ := HQ8.out w hSb; go_simp <;> (intros; omega)
 simp only [Act.put, List.setIfInBounds_toArray, List.set_cons_zero, List.set_cons_succ]
 refine takeD 7 (some 56) (.pointer (some ⟨w1.heap.size, 2, none⟩)) rfl rfl (by kernel_rfl) (by kernel_rfl) (by kernel_rfl) (fun _ _ _ h => h) (Or.inl ⟨by rfl, ?_⟩) (by assumption) ?_
 ·intro w hSw; (try dsimp only at hSw); obtain ⟨hSb, lk⟩ := hSw; obtain ⟨q1, q2, m1, c0, c1, c2, c3, c4⟩ := HQ8.out w hSb; go_simp <;> (intros; omega)
 simp only [Act.put, List.setIfInBounds_toArray, List.set_cons_zero, List.set_cons_succ]
 refine takeD 8 (some 57) (.string (foldD t d)) rfl rfl (by kernel_rfl) (by kernel_rfl) (by kernel_rfl) (fun _ _ _ h => h) (Or.inl ⟨by rfl, ?_⟩) (by assumption) ?_
 ·intro w hSw; (try dsimp only at hSw); obtain ⟨hSb, lk⟩ := hSw; obtain ⟨q1, q2, m1, c0, c1, c2, c3, c4⟩ := HQ8.out w hSb; go_simp <;> (intros; omega)
 simp only [Act.put, List.setIfInBounds_toArray, List.set_cons_zero, List.set_cons_succ]
 refine takeD 9 (some 58) (.agg #[.string o, .int .i64 t, .int .i64 c, .int .i64 l, .string d]) rfl rfl (by kernel_rfl) (by kernel_rfl) (by kernel_rfl) (fun _ _ _ h => h) (Or.inl ⟨by rfl, ?_⟩) (by assumption) ?_
 ·intro w hSw; (try dsimp only at hSw); obtain ⟨hSb, lk⟩ := hSw; obtain ⟨q1, q2, m1, c0, c1, c2, c3, c4⟩ := HQ8.out w hSb; go_simp <;> (intros; omega)
 simp only [Act.put, List.setIfInBounds_toArray, List.set_cons_zero, List.set_cons_succ]
 refine wpAnyH_ready (rs := [10]) (by kernel_rfl) (by simp) ?_
 refine AllReadyH.cons rfl (fun K hK => ?_) AllReadyH.nil
 go_simp
 go_wp2_with fail
 refine hK.out _ _ (⟨⟨HK7.out HB6.out, HK7.out HX6.out, HK7.out HS6.out⟩, HL7.out⟩) (fun hHeld => ?_)
 clear hK K
 try simp only [Act.put, List.setIfInBounds_toArray, List.set_cons_zero, List.set_cons_succ]
 refine wpAnyH_done (by kernel_rfl) ?_ _
 clear hHeld
 have HFl := hide' (HWf.out.put ⟨o, t, c, l, d⟩)
 have HOe : Hid (modO u.o (modT t fun s' => { s' with R := outK rkS (foldD t d) s'.R ++ [(⟨o, t, c, l, d⟩ : Rn)] }) (modO u.o (modT t fun s => { s with age := l }) (modO u.o (fun T => T ++ [⟨t, wm.heap.size, w4.heap.size, 0, []⟩]) O)) = modO (foldB o) (modT t fun s => { s with age := l, R := outK rkS (foldD t d) s.R ++ [(⟨o, t, c, l, d⟩ : Rn)] }) (modO u.o (fun T => T ++ [⟨t, wm.heap.size, w4.heap.size, 0, []⟩]) O)) := by
  unfold Hid
  rw [modO_modO, HU.out.2]
  congr 1
  funext T
  exact modT_modT t (fun s => { s with age := l }) (fun s' => { s' with R := outK rkS (foldD t d) s'.R ++ [(⟨o, t, c, l, d⟩ : Rn)] }) (fun _ => rfl) T
 have HBe : Hid (BkU base w w7) := by
  have l2 := HG2.out.size
  have l4 := HG4.out.size
  have l5 := HG5.out.size
  have ln := HGn.out.size
  have lS := HGS.out.size
  have hmu := HD4.out.ml u HU.out.1
  have l6 := HG6.out.size
  have hlo := HLo.out
  have hml := HDS.out.ml _ HMS.out.1
  refine ⟨?_, ((((((rk_none HG2.out).trans (rk_none HG4.out)).trans (rk_none HGn.out)).trans (rk_map (HDn.out.tm u HU.out.1) HGS.out)).trans (rk_box HS4.out HG5.out)).trans (rk_none HG6.out)).trans (rk_map HRm6.out HG7.out)⟩
  exact ((((((belowU HG2.out (fun k e => by cases e) hlo).trans (belowU HG4.out (fun k e => by cases e) (by omega))).trans (belowU HGn.out (fun k e => by cases e) (by omega))).trans (belowU HGS.out (fun k e => by injection e with e; rw [← e]; exact hmu.1) (by omega))).trans (belowU HG5.out (fun k e => by injection e with e; rw [← e]; exact (hml.2 _ HMS.out.2).1) (by omega))).trans (belowU HG6.out (fun k e => by cases e) (by omega))).trans (belowU HG7.out (fun k e => by injection e with e; rw [← e]; exact (hml.2 _ HMS.out.2).2) (by omega))
 have HCn : Hid (∀ k, CntU O k k k → CntU (modO (foldB o) (modT t fun s => { s with age := l, R := outK rkS (foldD t d) s.R ++ [(⟨o, t, c, l, d⟩ : Rn)] }) (modO u.o (fun T => T ++ [⟨t, wm.heap.size, w4.heap.size, 0, []⟩]) O)) (k + 1) (k + 1) (k + 1)) := fun k hk => ((hk.addS u.o t wm.heap.size w4.heap.size).put (foldB o) t (fun s => { s with age := l, R := outK rkS (foldD t d) s.R ++ [(⟨o, t, c, l, d⟩ : Rn)] }) (fun s => outK_le)).mono (by omega) (by omega) (by omega)
 go_wp2_with fail
 go_end0
 exact ⟨rfl, ⟨_, HOe.out ▸ HD7.out, HFl.out, HCn.out⟩, HBe.out⟩
end Go.Proofs.YtoabnpdoicbpiaaGreat
namespace Go.Proofs.YtoabnpdoicbpiaaGreat
set_option linter.unusedVariables false
set_option linter.unusedSimpArgs false
open Go.RowKit Go.Shelf Go.Maps Go.Proofs.YtoabnpdoicbpiaaGreat.Nm
set_option maxRecDepth 100000 in
set_option maxHeartbeats 8000000 in
theorem putU_owner {w : World} {base D M : Nat} {apex o d : ByteArray} {soa : Rn} {O : List Uo} {E : List Rn} {t c l : Int} (h : Dra w base D M apex soa O) (hF : Flu O E) (hno : ∀ u ∈ O, u.o ≠ foldB o) (hlo : base ≤ w.heap.size) (ho : o.size ≤ maxLen) (hd : d.size ≤ maxLen) (hx : usG (foldB o)) (hr : usG (foldD t d)) (ht : uiG t) (hOl : O.length < maxLen) :
  Calls Tryz.prog 58 #[.pointer (some ⟨D, 0, none⟩), .agg #[.string o, .int .i64 t, .int .i64 c, .int .i64 l, .string d]] w (putUE w base D M apex soa O E ⟨o, t, c, l, d⟩) := by
 have HNo := hide' hno
 have HF0 := hide' hF
 have HOl := hide' hOl
 have HD := hide' h
 have HX := hide' hx
 have HRk := hide' hr
 have HTi := hide' ht
 have HLo := hide' hlo
 obtain ⟨wb, hwb⟩ : ∃ v, w.alloc (.cells #[.string o, .int .i64 t, .int .i64 c, .int .i64 l, .string d] 29) = v := ⟨_, rfl⟩
 have HGb : Hid (w.grownBy wb none) := hwb ▸ World.grownBy_alloc w _ none
 have HBb : Hid (Bx wb w.heap.size #[.string o, .int .i64 t, .int .i64 c, .int .i64 l, .string d] 29) := hwb ▸ World.alloc_heap_new w _
 have HSo : Hid (Calls Tryz.prog 38 #[.agg #[.string o, .int .i64 t, .int .i64 c, .int .i64 l, .string d]] wb fun e w' => e = .returned (.agg #[.string (foldB o), .int .i64 t, .string (foldD t d)]) ∧ Below wb.heap.size wb w') := senseOf_any ⟨o, t, c, l, d⟩ wb ho hd
 obtain ⟨c0, c1, c2, c3, c4⟩ := bx5U HBb.out
 clear hno hF hOl h hx hr ht hlo ho hd
 go_enter Tryz.func58, Tryz.ntmps58
 go_wp2_with (go_at_call 38; go_loud (refine HSo.out.mono ?_; rintro e1 w1 ⟨rfl, hB1⟩; have HG1 : Hid (w.grownBy w1 none) := (grown_trans HGb.out (grown_below hB1 none)); have HB1 : Hid (Bx w1 w.heap.size #[.string o, .int .i64 t, .int .i64 c, .int .i64 l, .string d] 29) := HBb.out.grown (grown_below hB1 none) (by simp); clear hB1; obtain ⟨wa, ha⟩ : ∃ v, w1.alloc (.cells #[.string ⟨#[]⟩, .int .i64 0, .string ⟨#[]⟩] 83) = v := ⟨_, rfl⟩; have HGa : Hid (w.grownBy wa none) := (grown_trans HG1.out (ha ▸ World.grownBy_alloc w1 _ none)); have HBa : Hid (Bx wa w.heap.size #[.string o, .int .i64 t, .int .i64 c, .int .i64 l, .string d] 29) := HB1.out.grown (ha ▸ World.grownBy_alloc w1 _ none) (by simp); have HXa : Hid (Bx wa w1.heap.size #[.string ⟨#[]⟩, .int .i64 0, .string ⟨#[]⟩] 83) := ha ▸ World.alloc_heap_new w1 _; have HLe : Hid (w.heap.size ≤ w1.heap.size) := HG1.out.size; obtain ⟨z0, z1, z2, f0, f1, f2⟩ := bx3U HXa.out; obtain ⟨w2, hst⟩ : ∃ v, (((wa.setCell ⟨w1.heap.size, 0, none⟩ (.string (foldB o))).setCell ⟨w1.heap.size, 1, none⟩ (.int .i64 t)).setCell ⟨w1.heap.size, 2, none⟩ (.string (foldD t d))) = v := ⟨_, rfl⟩; have HX2 : Hid (Bx w2 w1.heap.size #[.string (foldB o), .int .i64 t, .string (foldD t d)] 83) := hst ▸ bx3U_set HXa.out _ _ _; have HG2 : Hid (w.grownBy w2 none) := hst ▸ grown_far1 (grown_far1 (grown_far1 HGa.out HLe.out 0 _) HLe.out 1 _) HLe.out 2 _; have HB2 : Hid (Bx w2 w.heap.size #[.string o, .int .i64 t, .int .i64 c, .int .i64 l, .string d] 29) := hst ▸ HBa.out.apartU HXa.out (by decide) (grown_trans (grown_trans (grown_set _ _ _ _) (grown_set _ _ _ _)) (grown_set _ _ _ _))))
 have HD2 := hide' (HD.out.idle HG2.out)
 have HQ : Hid (∀ V : World, w2.grownBy V none → V.cell? ⟨D, 6, none⟩ = some (.map (some M)) ∧ V.cell? ⟨w1.heap.size, 0, none⟩ = some (.string (foldB o)) ∧ V.cell? ⟨w1.heap.size, 1, none⟩ = some (.int .i64 t) ∧ (Instr.lookup 70 (.map (some M)) (.string (foldB o)) false).run Tryz.prog V = .ok (.map none) V) := fun V hV => by
  have hX := HX2.out.grown hV (by simp)
  have hD := HD2.out.idle hV
  have hl := hD.om.look HX.out
  have e : umAt (foldB o) O = .map none := by
   unfold umAt
   rw [atK_none.2 HNo.out]
   rfl
  rw [e] at hl
  exact ⟨hD.bx.cell rfl, hX.cell rfl, hX.cell rfl, hl⟩
 obtain ⟨w3, hw3⟩ : ∃ v, w2.drew = v := ⟨_, rfl⟩
 have HG3 : Hid (w2.grownBy w3 none) := hw3 ▸ ⟨rfl, rfl, rfl, Nat.le_refl _, fun _ _ _ => rfl⟩
 refine wp_region_held_drew (S := fun V => w2.grownBy V none) (by kernel_rfl) ?_ (fun hHeld => ?_)
 ·rw [hw3]; exact HG3.out
 rw [hw3] at hHeld ⊢
 refine takeD 0 (some 8) (.pointer (some ⟨D, 0, none⟩)) rfl rfl (by kernel_rfl) (by kernel_rfl) (by kernel_rfl) (fun _ _ _ h => h) (Or.inl ⟨by rfl, ?_⟩) (by assumption) ?_
 ·intro w hSw; (try dsimp only at hSw); obtain ⟨d6, q0, q1, lk⟩ := HQ.out w hSw; have mn := mapEqN w; go_simp <;> (intros; omega)
 simp only [Act.put, List.setIfInBounds_toArray, List.set_cons_zero, List.set_cons_succ]
 refine takeD 1 (some 9) (.pointer (some ⟨D, 0, none⟩)) rfl rfl (by kernel_rfl) (by kernel_rfl) (by kernel_rfl) (fun _ _ _ h => h) (Or.inl ⟨by rfl, ?_⟩) (by assumption) ?_
 ·intro w hSw; (try dsimp only at hSw); obtain ⟨d6, q0, q1, lk⟩ := HQ.out w hSw; have mn := mapEqN w; go_simp <;> (intros; omega)
 simp only [Act.put, List.setIfInBounds_toArray, List.set_cons_zero, List.set_cons_succ]
 refine takeD 2 (some 10) (.pointer (some ⟨D, 6, none⟩)) rfl rfl (by kernel_rfl) (by kernel_rfl) (by kernel_rfl) (fun _ _ _ h => h) (Or.inl ⟨by rfl, ?_⟩) (by assumption) ?_
 ·intro w hSw; (try dsimp only at hSw); obtain ⟨d6, q0, q1, lk⟩ := HQ.out w hSw; have mn := mapEqN w; go_simp <;> (intros; omega)
 simp only [Act.put, List.setIfInBounds_toArray, List.set_cons_zero, List.set_cons_succ]
 refine takeD 3 (some 11) (.map (some M)) rfl rfl (by kernel_rfl) (by kernel_rfl) (by kernel_rfl) (fun _ _ _ h => h) (Or.inl ⟨by rfl, ?_⟩) (by assumption) ?_
 ·intro w hSw; (try dsimp only at hSw); obtain ⟨d6, q0, q1, lk⟩ := HQ.out w hSw; have mn := mapEqN w; go_simp <;> (intros; omega)
 simp only [Act.put, List.setIfInBounds_toArray, List.set_cons_zero, List.set_cons_succ]
 refine takeD 4 (some 12) (.pointer (some ⟨w1.heap.size, 0, none⟩)) rfl rfl (by kernel_rfl) (by kernel_rfl) (by kernel_rfl) (fun _ _ _ h => h) (Or.inl ⟨by rfl, ?_⟩) (by assumption) ?_
 ·intro w hSw; (try dsimp only at hSw); obtain ⟨d6, q0, q1, lk⟩ := HQ.out w hSw; have mn := mapEqN w; go_simp <;> (intros; omega)
 simp only [Act.put, List.setIfInBounds_toArray, List.set_cons_zero, List.set_cons_succ]
 refine takeD 5 (some 13) (.string (foldB o)) rfl rfl (by kernel_rfl) (by kernel_rfl) (by kernel_rfl) (fun _ _ _ h => h) (Or.inl ⟨by rfl, ?_⟩) (by assumption) ?_
 ·intro w hSw; (try dsimp only at hSw); obtain ⟨d6, q0, q1, lk⟩ := HQ.out w hSw; have mn := mapEqN w; go_simp <;> (intros; omega)
 simp only [Act.put, List.setIfInBounds_toArray, List.set_cons_zero, List.set_cons_succ]
 refine takeD 6 (some 14) (.map none) rfl rfl (by kernel_rfl) (by kernel_rfl) (by kernel_rfl) (fun _ _ _ h => h) (Or.inl ⟨by rfl, ?_⟩) (by assumption) ?_
 ·intro w hSw; (try dsimp only at hSw); obtain ⟨d6, q0, q1, lk⟩ := HQ.out w hSw; have mn := mapEqN w; go_simp <;> (intros; omega)
 simp only [Act.put, List.setIfInBounds_toArray, List.set_cons_zero, List.set_cons_succ]
 refine takeD 7 (some 15) (.bool true) rfl rfl (by kernel_rfl) (by kernel_rfl) (by kernel_rfl) (fun _ _ _ h => h) (Or.inl ⟨by rfl, ?_⟩) (by assumption) ?_
 ·intro w hSw; (try dsimp only at hSw); obtain ⟨d6, q0, q1, lk⟩ := HQ.out w hSw; have mn := mapEqN w; go_simp <;> (intros; omega)
 simp only [Act.put, List.setIfInBounds_toArray, List.set_cons_zero, List.set_cons_succ]
 refine wpAnyH_done (by kernel_rfl) ?_ _
 clear hHeld
 go_wp2_with fail
 obtain ⟨wx, hwx⟩ : ∃ v, w3.drew = v := ⟨_, rfl⟩
 have HGx : Hid (w2.grownBy wx none) := hwx ▸ grown_trans HG3.out ⟨rfl, rfl, rfl, Nat.le_refl _, fun _ _ _ => rfl⟩
 obtain ⟨wq, hwq⟩ : ∃ v, wx.alloc (.map #[] 0) = v := ⟨_, rfl⟩
 have mkq : (Instr.makeMap 107 none).run Tryz.prog wx = .ok (.map (some wx.heap.size)) wq := by
  rw [← hwq]
  simp [Instr.makeMap, run_underlying Tryz.underlying107, newObj]
  rfl
 have HGq0 : Hid (wx.grownBy wq none) := hwq ▸ World.grownBy_alloc wx _ none
 have HGq : Hid (w2.grownBy wq none) := grown_trans HGx.out HGq0.out
 have HTq : Hid (Tmap wq wx.heap.size []) := hwq ▸ Lmap.made wx
 have HDq := hide' (HD2.out.idle HGq.out)
 have HDx := hide' (HD2.out.idle HGx.out)
 obtain ⟨wr, hrunr, hOr, hgr⟩ : ∃ w', (Instr.mapUpdate 70 (.map (some M)) (.string (foldB o)) (.map (some wx.heap.size))).run Tryz.prog wq = .ok () w' ∧ Omap w' M (outK Uo.o (foldB o) O ++ [(⟨foldB o, wx.heap.size, []⟩ : Uo)]) ∧ wq.grownBy w' (some M) := Omap.store HDq.out.om ⟨foldB o, wx.heap.size, []⟩ HX.out HOl.out
 rw [outK_none HNo.out] at hOr
 have HGr := hide' hgr
 have HLox : Hid (base ≤ wx.heap.size) := by have h1 := HLo.out; have h2 := HG2.out.size; have h3 := HGx.out.size; unfold Hid; omega
 have HDr0 := hide' (HDx.out.addO HLox.out HGq0.out HTq.out (Nat.le_refl _) hOr hgr)
 have HFu0 := hide' (HF0.out.addO (b := wx.heap.size) HNo.out)
 have HKr : Hid (∀ {q : Nat} {cs : Array Value} {X : TypeId}, Bx wq q cs X → Bx wr q cs X) := fun hb => hb.grown HGr.out (fun e => map_block HDq.out.om hb (Option.some.inj e))
 have HBr : Hid (Bx wr w.heap.size #[.string o, .int .i64 t, .int .i64 c, .int .i64 l, .string d] 29) := HKr.out (HB2.out.grown HGq.out (by simp))
 have HXr : Hid (Bx wr w1.heap.size #[.string (foldB o), .int .i64 t, .string (foldD t d)] 83) := HKr.out (HX2.out.grown HGq.out (by simp))
 have HQx : Hid (∀ V : World, (V.cell? ⟨D, 6, none⟩ = some (.map (some M)) ∧ V.cell? ⟨w1.heap.size, 0, none⟩ = some (.string (foldB o))) → V.cell? ⟨D, 6, none⟩ = some (.map (some M)) ∧ V.cell? ⟨w1.heap.size, 0, none⟩ = some (.string (foldB o))) := fun V hV => hV
 refine wp_region_held_drew (S := fun V => V.cell? ⟨D, 6, none⟩ = some (.map (some M)) ∧ V.cell? ⟨w1.heap.size, 0, none⟩ = some (.string (foldB o))) (by kernel_rfl) ?_ (fun hHeld => ?_)
 ·rw [hwx]; exact ⟨HDx.out.bx.cell rfl, (HX2.out.grown HGx.out (by simp)).cell rfl⟩
 rw [hwx] at hHeld ⊢
 refine takeD 0 (some 16) (.pointer (some ⟨D, 0, none⟩)) rfl rfl (by kernel_rfl) (by kernel_rfl) (by kernel_rfl) (fun _ _ _ h => h) (Or.inl ⟨by rfl, ?_⟩) (by assumption) ?_
 ·intro w hSw; (try dsimp only at hSw); obtain ⟨d6, q0⟩ := hSw; go_simp <;> (intros; omega)
 simp only [Act.put, List.setIfInBounds_toArray, List.set_cons_zero, List.set_cons_succ]
 refine takeD 1 (some 17) (.pointer (some ⟨D, 0, none⟩)) rfl rfl (by kernel_rfl) (by kernel_rfl) (by kernel_rfl) (fun _ _ _ h => h) (Or.inl ⟨by rfl, ?_⟩) (by assumption) ?_
 ·intro w hSw; (try dsimp only at hSw); obtain ⟨d6, q0⟩ := hSw; go_simp <;> (intros; omega)
 simp only [Act.put, List.setIfInBounds_toArray, List.set_cons_zero, List.set_cons_succ]
 refine takeD 2 (some 18) (.pointer (some ⟨D, 6, none⟩)) rfl rfl (by kernel_rfl) (by kernel_rfl) (by kernel_rfl) (fun _ _ _ h => h) (Or.inl ⟨by rfl, ?_⟩) (by assumption) ?_
 ·intro w hSw; (try dsimp only at hSw); obtain ⟨d6, q0⟩ := hSw; go_simp <;> (intros; omega)
 simp only [Act.put, List.setIfInBounds_toArray, List.set_cons_zero, List.set_cons_succ]
 refine takeD 3 (some 19) (.map (some M)) rfl rfl (by kernel_rfl) (by kernel_rfl) (by kernel_rfl) (fun _ _ _ h => h) (Or.inl ⟨by rfl, ?_⟩) (by assumption) ?_
 ·intro w hSw; (try dsimp only at hSw); obtain ⟨d6, q0⟩ := hSw; go_simp <;> (intros; omega)
 simp only [Act.put, List.setIfInBounds_toArray, List.set_cons_zero, List.set_cons_succ]
 refine takeD 4 (some 20) (.pointer (some ⟨w1.heap.size, 0, none⟩)) rfl rfl (by kernel_rfl) (by kernel_rfl) (by kernel_rfl) (fun _ _ _ h => h) (Or.inl ⟨by rfl, ?_⟩) (by assumption) ?_
 ·intro w hSw; (try dsimp only at hSw); obtain ⟨d6, q0⟩ := hSw; go_simp <;> (intros; omega)
 simp only [Act.put, List.setIfInBounds_toArray, List.set_cons_zero, List.set_cons_succ]
 refine takeD 5 (some 21) (.string (foldB o)) rfl rfl (by kernel_rfl) (by kernel_rfl) (by kernel_rfl) (fun _ _ _ h => h) (Or.inl ⟨by rfl, ?_⟩) (by assumption) ?_
 ·intro w hSw; (try dsimp only at hSw); obtain ⟨d6, q0⟩ := hSw; go_simp <;> (intros; omega)
 simp only [Act.put, List.setIfInBounds_toArray, List.set_cons_zero, List.set_cons_succ]
 refine wpAnyH_ready (rs := [6]) (by kernel_rfl) (by simp) ?_
 refine AllReadyH.cons rfl (fun K hK => ?_) AllReadyH.nil
 go_simp
 go_wp2_with fail
 refine hK.out _ _ (⟨HDq.out.bx.cell rfl, (HX2.out.grown HGq.out (by simp)).cell rfl⟩) (fun hHeld => ?_)
 clear hK K
 try simp only [Act.put, List.setIfInBounds_toArray, List.set_cons_zero, List.set_cons_succ]
 refine wpAnyH_ready (rs := [7]) (by kernel_rfl) (by simp) ?_
 refine AllReadyH.cons rfl (fun K hK => ?_) AllReadyH.nil
 go_simp
 go_wp2_with fail
 refine hK.out _ _ (⟨HDr0.out.bx.cell rfl, HXr.out.cell rfl⟩) (fun hHeld => ?_)
 clear hK K
 try simp only [Act.put, List.setIfInBounds_toArray, List.set_cons_zero, List.set_cons_succ]
 refine wpAnyH_done (by kernel_rfl) ?_ _
 clear hHeld
 obtain ⟨O0, hO0⟩ : ∃ X, O = X := ⟨_, rfl⟩
 rw [hO0] at HDr0 HFu0 HNo HDq HDx
 obtain ⟨u, hu⟩ : ∃ u : Uo, (⟨foldB o, wx.heap.size, []⟩ : Uo) = u := ⟨_, rfl⟩
 obtain ⟨O1, hO1⟩ : ∃ X, O0 ++ [u] = X := ⟨_, rfl⟩
 have HU : Hid (u ∈ O1 ∧ u.o = foldB o) := ⟨hO1 ▸ List.mem_append_right _ (List.mem_singleton.2 rfl), hu ▸ rfl⟩
 have HNt : Hid (∀ s ∈ u.T, s.t ≠ t) := fun s hs => by rw [← hu] at hs; cases hs
 have HTl : Hid (u.T.length < maxLen) := by rw [← hu]; unfold Hid maxLen; simp
 rw [hu, hO1] at HDr0 HFu0
 have HFu : Hid (Flu O1 E) := HFu0.out
 have HDr : Hid (Dra wr base D M apex soa O1) := HDr0.out
 have HC1 : Hid (∀ a b c, CntU O a b c → CntU O1 (a + 1) b c) := fun a b c h => by
  rw [← hO1, ← hu, ← hO0]
  exact h.addO _ _
 clear hu hO1 mkq hrunr
 have HQr : Hid (∀ V : World, wr.grownBy V none → V.cell? ⟨D, 6, none⟩ = some (.map (some M)) ∧ V.cell? ⟨w1.heap.size, 0, none⟩ = some (.string (foldB o)) ∧ V.cell? ⟨w1.heap.size, 1, none⟩ = some (.int .i64 t) ∧ (Instr.lookup 70 (.map (some M)) (.string (foldB o)) false).run Tryz.prog V = .ok (.map (some u.b)) V) := fun V hV => by
  have hX := HXr.out.grown hV (by simp)
  have hD := HDr.out.idle hV
  have hl := hD.om.look HX.out
  have e : umAt (foldB o) O1 = .map (some u.b) := by
   unfold umAt
   rw [← HU.out.2, atK_mem hD.om.nodup HU.out.1]
   rfl
  rw [e] at hl
  exact ⟨hD.bx.cell rfl, hX.cell rfl, hX.cell rfl, hl⟩
 go_wp2_with fail
 obtain ⟨w4, hw4⟩ : ∃ v, wr.drew = v := ⟨_, rfl⟩
 have HG4 : Hid (wr.grownBy w4 none) := hw4 ▸ ⟨rfl, rfl, rfl, Nat.le_refl _, fun _ _ _ => rfl⟩
 refine wp_region_held_drew (S := fun V => wr.grownBy V none) (by kernel_rfl) ?_ (fun hHeld => ?_)
 ·rw [hw4]; exact HG4.out
 rw [hw4] at hHeld ⊢
 refine takeD 0 (some 23) (.pointer (some ⟨D, 0, none⟩)) rfl rfl (by kernel_rfl) (by kernel_rfl) (by kernel_rfl) (fun _ _ _ h => h) (Or.inl ⟨by rfl, ?_⟩) (by assumption) ?_
 ·intro w hSw; (try dsimp only at hSw); obtain ⟨d6, q0, q1, lk⟩ := HQr.out w hSw; have mn := mapNe u.b w; go_simp <;> (intros; omega)
 simp only [Act.put, List.setIfInBounds_toArray, List.set_cons_zero, List.set_cons_succ]
 refine takeD 1 (some 24) (.pointer (some ⟨D, 0, none⟩)) rfl rfl (by kernel_rfl) (by kernel_rfl) (by kernel_rfl) (fun _ _ _ h => h) (Or.inl ⟨by rfl, ?_⟩) (by assumption) ?_
 ·intro w hSw; (try dsimp only at hSw); obtain ⟨d6, q0, q1, lk⟩ := HQr.out w hSw; have mn := mapNe u.b w; go_simp <;> (intros; omega)
 simp only [Act.put, List.setIfInBounds_toArray, List.set_cons_zero, List.set_cons_succ]
 refine takeD 2 (some 25) (.pointer (some ⟨D, 6, none⟩)) rfl rfl (by kernel_rfl) (by kernel_rfl) (by kernel_rfl) (fun _ _ _ h => h) (Or.inl ⟨by rfl, ?_⟩) (by assumption) ?_
 ·intro w hSw; (try dsimp only at hSw); obtain ⟨d6, q0, q1, lk⟩ := HQr.out w hSw; have mn := mapNe u.b w; go_simp <;> (intros; omega)
 simp only [Act.put, List.setIfInBounds_toArray, List.set_cons_zero, List.set_cons_succ]
 refine takeD 3 (some 26) (.map (some M)) rfl rfl (by kernel_rfl) (by kernel_rfl) (by kernel_rfl) (fun _ _ _ h => h) (Or.inl ⟨by rfl, ?_⟩) (by assumption) ?_
 ·intro w hSw; (try dsimp only at hSw); obtain ⟨d6, q0, q1, lk⟩ := HQr.out w hSw; have mn := mapNe u.b w; go_simp <;> (intros; omega)
 simp only [Act.put, List.setIfInBounds_toArray, List.set_cons_zero, List.set_cons_succ]
 refine takeD 4 (some 27) (.pointer (some ⟨w1.heap.size, 0, none⟩)) rfl rfl (by kernel_rfl) (by kernel_rfl) (by kernel_rfl) (fun _ _ _ h => h) (Or.inl ⟨by rfl, ?_⟩) (by assumption) ?_
 ·intro w hSw; (try dsimp only at hSw); obtain ⟨d6, q0, q1, lk⟩ := HQr.out w hSw; have mn := mapNe u.b w; go_simp <;> (intros; omega)
 simp only [Act.put, List.setIfInBounds_toArray, List.set_cons_zero, List.set_cons_succ]
 refine takeD 5 (some 28) (.string (foldB o)) rfl rfl (by kernel_rfl) (by kernel_rfl) (by kernel_rfl) (fun _ _ _ h => h) (Or.inl ⟨by rfl, ?_⟩) (by assumption) ?_
 ·intro w hSw; (try dsimp only at hSw); obtain ⟨d6, q0, q1, lk⟩ := HQr.out w hSw; have mn := mapNe u.b w; go_simp <;> (intros; omega)
 simp only [Act.put, List.setIfInBounds_toArray, List.set_cons_zero, List.set_cons_succ]
 refine takeD 6 (some 29) (.map (some u.b)) rfl rfl (by kernel_rfl) (by kernel_rfl) (by kernel_rfl) (fun _ _ _ h => h) (Or.inl ⟨by rfl, ?_⟩) (by assumption) ?_
 ·intro w hSw; (try dsimp only at hSw); obtain ⟨d6, q0, q1, lk⟩ := HQr.out w hSw; have mn := mapNe u.b w; go_simp <;> (intros; omega)
 simp only [Act.put, List.setIfInBounds_toArray, List.set_cons_zero, List.set_cons_succ]
 refine takeD 7 (some 5) (.map (some u.b)) rfl rfl (by kernel_rfl) (by kernel_rfl) (by kernel_rfl) (fun _ _ _ h => h) (Or.inl ⟨by rfl, ?_⟩) (by assumption) ?_
 ·intro w hSw; (try dsimp only at hSw); obtain ⟨d6, q0, q1, lk⟩ := HQr.out w hSw; have mn := mapNe u.b w; go_simp <;> (intros; omega)
 simp only [Act.put, List.setIfInBounds_toArray, List.set_cons_zero, List.set_cons_succ]
 refine wpAnyH_done (by kernel_rfl) ?_ _
 clear hHeld
 have HD4 := hide' (HDr.out.idle HG4.out)
 have HB4 : Hid (Bx w4 w.heap.size #[.string o, .int .i64 t, .int .i64 c, .int .i64 l, .string d] 29) := HBr.out.grown HG4.out (by simp)
 have HX4 : Hid (Bx w4 w1.heap.size #[.string (foldB o), .int .i64 t, .string (foldD t d)] 83) := HXr.out.grown HG4.out (by simp)
 have lkN : (Instr.lookup 107 (.map (some u.b)) (.int .i64 t) false).run Tryz.prog w4 = .ok (.pointer none) w4 := by
  have hl := (HD4.out.tm u HU.out.1).look HTi.out
  have e : upAt t u.T = .pointer none := by
   unfold upAt
   rw [atK_none.2 HNt.out]
   rfl
  rw [e] at hl
  exact hl
 obtain ⟨wm, hm⟩ : ∃ v, w4.alloc (.map #[] 0) = v := ⟨_, rfl⟩
 have mkm : (Instr.makeMap 109 none).run Tryz.prog w4 = .ok (.map (some w4.heap.size)) wm := by
  rw [← hm]
  simp [Instr.makeMap, run_underlying Tryz.underlying109, newObj]
  rfl
 have HGm : Hid (w4.grownBy wm none) := hm ▸ World.grownBy_alloc w4 _ none
 have HRm : Hid (Rmap wm w4.heap.size []) := hm ▸ Lmap.made w4
 obtain ⟨wn, hn⟩ : ∃ v, wm.alloc (.cells #[.int .i64 0, .map (some w4.heap.size)] 111) = v := ⟨_, rfl⟩
 have HGn : Hid (w4.grownBy wn none) := grown_trans HGm.out (hn ▸ World.grownBy_alloc wm _ none)
 have HRn : Hid (Rmap wn w4.heap.size []) := HRm.out.kept (hn ▸ World.grownBy_alloc wm _ none) (by simp)
 have HBn : Hid (Bx wn wm.heap.size #[.int .i64 0, .map (some w4.heap.size)] 111) := hn ▸ World.alloc_heap_new wm _
 have HLn : Hid (w4.heap.size ≤ wm.heap.size) := HGm.out.size
 have HDn := hide' (HD4.out.idle HGn.out)
 obtain ⟨wS, hrunS, hTS, hgS⟩ : ∃ w', (Instr.mapUpdate 107 (.map (some u.b)) (.int .i64 t) (.pointer (some ⟨wm.heap.size, 0, none⟩))).run Tryz.prog wn = .ok () w' ∧ Tmap w' u.b (outK Ust.t t u.T ++ [(⟨t, wm.heap.size, w4.heap.size, 0, []⟩ : Ust)]) ∧ wn.grownBy w' (some u.b) := Tmap.store (HDn.out.tm u HU.out.1) ⟨t, wm.heap.size, w4.heap.size, 0, []⟩ HTi.out HTl.out
 rw [outK_none HNt.out] at hTS
 have HGS := hide' hgS
 have HLo4 : Hid (base ≤ w4.heap.size) := by have h1 := HLo.out; have h2 := HG2.out.size; have h4 := HGq.out.size; have h5 := HGr.out.size; have h3 := HG4.out.size; unfold Hid; omega
 have HDS := hide' (HD4.out.addS HU.out.1 HLo4.out HGn.out HRn.out HBn.out HLn.out (Nat.le_refl _) hTS hgS)
 have HMS : Hid (({ u with T := u.T ++ [⟨t, wm.heap.size, w4.heap.size, 0, []⟩] } : Uo) ∈ (modO u.o (fun T => T ++ [⟨t, wm.heap.size, w4.heap.size, 0, []⟩]) O1) ∧ (⟨t, wm.heap.size, w4.heap.size, 0, []⟩ : Ust) ∈ ({ u with T := u.T ++ [⟨t, wm.heap.size, w4.heap.size, 0, []⟩] } : Uo).T) := ⟨mem_modO_self HU.out.1 _, List.mem_append_right _ (List.mem_singleton.2 rfl)⟩
 have HWf : Hid (FluW (modO u.o (fun T => T ++ [⟨t, wm.heap.size, w4.heap.size, 0, []⟩]) O1) E (foldB o, t)) := HU.out.2 ▸ HFu.out.addS HU.out.1 HNt.out
 have HKS : Hid (∀ {q : Nat} {cs : Array Value} {X : TypeId}, Bx wn q cs X → Bx wS q cs X) := fun hb => hb.grown HGS.out (fun e => map_block (HDn.out.tm u HU.out.1) hb (Option.some.inj e))
 have HS4 : Hid (Bx wS wm.heap.size #[.int .i64 0, .map (some w4.heap.size)] 111) := HKS.out HBn.out
 have HBS : Hid (Bx wS w.heap.size #[.string o, .int .i64 t, .int .i64 c, .int .i64 l, .string d] 29) := HKS.out (HB4.out.grown HGn.out (by simp))
 have HXS : Hid (Bx wS w1.heap.size #[.string (foldB o), .int .i64 t, .string (foldD t d)] 83) := HKS.out (HX4.out.grown HGn.out (by simp))
 obtain ⟨w5, hw5⟩ : ∃ v, wS.setCell ⟨wm.heap.size, 0, none⟩ (.int .i64 l) = v := ⟨_, rfl⟩
 have HG5 : Hid (wS.grownBy w5 (some wm.heap.size)) := hw5 ▸ grown_set _ _ _ _
 have HS5 : Hid (Bx w5 wm.heap.size #[.int .i64 l, .map (some w4.heap.size)] 111) := hw5 ▸ HS4.out.set 0 (.int .i64 l)
 have HD5 := hide' (HDS.out.setAge HMS.out.1 HMS.out.2 l HS5.out HG5.out)
 have lkT : (Instr.lookup 107 (.map (some u.b)) (.int .i64 t) false).run Tryz.prog wS = .ok (.pointer (some ⟨wm.heap.size, 0, none⟩)) wS := HDS.out.lookT HMS.out.1 HMS.out.2 HTi.out
 have t0 : wS.cell? ⟨wm.heap.size, 0, none⟩ = some (.int .i64 0) := HS4.out.cell rfl
 have t0f : wS.frozen? ⟨wm.heap.size, 0, none⟩ = false := HS4.out.free _
 have qq4 : w4.cell? ⟨w1.heap.size, 1, none⟩ = some (.int .i64 t) := HX4.out.cell rfl
 have qqS : wS.cell? ⟨w1.heap.size, 1, none⟩ = some (.int .i64 t) := HXS.out.cell rfl
 have ql : wS.cell? ⟨w.heap.size, 3, none⟩ = some (.int .i64 l) := HBS.out.cell rfl
 go_wp2_with fail
 clear mkm lkT lkN t0 t0f qq4 qqS ql
 have HB5 : Hid (Bx w5 w.heap.size #[.string o, .int .i64 t, .int .i64 c, .int .i64 l, .string d] 29) := HBS.out.apartU HS4.out (by decide) HG5.out
 have HX5 : Hid (Bx w5 w1.heap.size #[.string (foldB o), .int .i64 t, .string (foldD t d)] 83) := HXS.out.apartU HS4.out (by decide) HG5.out
 have HM5 : Hid (({ u with T := modT t (fun s => { s with age := l }) (u.T ++ [⟨t, wm.heap.size, w4.heap.size, 0, []⟩]) } : Uo) ∈ modO u.o (modT t fun s => { s with age := l }) (modO u.o (fun T => T ++ [⟨t, wm.heap.size, w4.heap.size, 0, []⟩]) O1) ∧ (⟨t, wm.heap.size, w4.heap.size, l, []⟩ : Ust) ∈ modT t (fun s => { s with age := l }) (u.T ++ [⟨t, wm.heap.size, w4.heap.size, 0, []⟩])) := ⟨mem_modO_self HMS.out.1 _, mem_modT_self HMS.out.2 _⟩
 obtain ⟨w6, hw6⟩ : ∃ v, w5.drew = v := ⟨_, rfl⟩
 have HG6 : Hid (w5.grownBy w6 none) := hw6 ▸ ⟨rfl, rfl, rfl, Nat.le_refl _, fun _ _ _ => rfl⟩
 have HD6 := hide' (HD5.out.idle HG6.out)
 have HTt : Hid (uiG t) := HTi.out
 obtain ⟨w7, hrun7, hR7, hg7⟩ : ∃ w', (Instr.mapUpdate 109 (.map (some w4.heap.size)) (.string (foldD t d)) (.agg #[.string o, .int .i64 t, .int .i64 c, .int .i64 l, .string d])).run Tryz.prog w6 = .ok () w' ∧ Rmap w' w4.heap.size (outK rkS (foldD t d) [] ++ [(⟨o, t, c, l, d⟩ : Rn)]) ∧ w6.grownBy w' (some w4.heap.size) := Rmap.store (HD6.out.rm _ HM5.out.1 _ HM5.out.2) ⟨o, t, c, l, d⟩ HRk.out (by unfold maxLen; simp)
 have HG7 := hide' hg7
 have HRm6 : Hid (Rmap w6 w4.heap.size []) := HD6.out.rm _ HM5.out.1 (⟨t, wm.heap.size, w4.heap.size, l, []⟩ : Ust) HM5.out.2
 have HD7 := hide' (HD6.out.putR HM5.out.1 HM5.out.2 ⟨o, t, c, l, d⟩ hR7 hg7)
 have HK7 : Hid (∀ {q : Nat} {cs : Array Value} {X : TypeId}, Bx w6 q cs X → Bx w7 q cs X) := fun hb => hb.grown HG7.out (fun e => map_block HRm6.out hb (Option.some.inj e))
 have HQ8 : Hid (∀ V : World, (Bx V w.heap.size #[.string o, .int .i64 t, .int .i64 c, .int .i64 l, .string d] 29 ∧ Bx V w1.heap.size #[.string (foldB o), .int .i64 t, .string (foldD t d)] 83 ∧ Bx V wm.heap.size #[.int .i64 l, .map (some w4.heap.size)] 111) → V.cell? ⟨w1.heap.size, 1, none⟩ = some (.int .i64 t) ∧ V.cell? ⟨w1.heap.size, 2, none⟩ = some (.string (foldD t d)) ∧ V.cell? ⟨wm.heap.size, 1, none⟩ = some (.map (some w4.heap.size)) ∧ V.cell? ⟨w.heap.size, 0, none⟩ = some (.string o) ∧ V.cell? ⟨w.heap.size, 1, none⟩ = some (.int .i64 t) ∧ V.cell? ⟨w.heap.size, 2, none⟩ = some (.int .i64 c) ∧ V.cell? ⟨w.heap.size, 3, none⟩ = some (.int .i64 l) ∧ V.cell? ⟨w.heap.size, 4, none⟩ = some (.string d)) := fun V hV => ⟨hV.2.1.cell rfl, hV.2.1.cell rfl, hV.2.2.cell rfl, hV.1.cell rfl, hV.1.cell rfl, hV.1.cell rfl, hV.1.cell rfl, hV.1.cell rfl⟩
 have HB6 := hide' (HB5.out.grown HG6.out (by simp))
 have HX6 := hide' (HX5.out.grown HG6.out (by simp))
 have HS6 := hide' (HS5.out.grown HG6.out (by simp))
 have HL6 : Hid ((Instr.lookup 107 (.map (some u.b)) (.int .i64 t) false).run Tryz.prog w6 = .ok (.pointer (some ⟨wm.heap.size, 0, none⟩)) w6) := (HD6.out.lookT HM5.out.1 HM5.out.2 HTt.out)
 have HL7 : Hid ((Instr.lookup 107 (.map (some u.b)) (.int .i64 t) false).run Tryz.prog w7 = .ok (.pointer (some ⟨wm.heap.size, 0, none⟩)) w7) := (HD7.out.lookT (mem_modO_self HM5.out.1 _) (mem_modT_self HM5.out.2 _) HTt.out)
 refine wp_region_held_drew (S := fun V => (Bx V w.heap.size #[.string o, .int .i64 t, .int .i64 c, .int .i64 l, .string d] 29 ∧ Bx V w1.heap.size #[.string (foldB o), .int .i64 t, .string (foldD t d)] 83 ∧ Bx V wm.heap.size #[.int .i64 l, .map (some w4.heap.size)] 111) ∧ (Instr.lookup 107 (.map (some u.b)) (.int .i64 t) false).run Tryz.prog V = .ok (.pointer (some ⟨wm.heap.size, 0, none⟩)) V) (by kernel_rfl) ?_ (fun hHeld => ?_)
 ·rw [hw6]; exact ⟨⟨HB6.out, HX6.out, HS6.out⟩, HL6.out⟩
 rw [hw6] at hHeld ⊢
 refine takeD 0 (some 49) (.map (some u.b)) rfl rfl (by kernel_rfl) (by kernel_rfl) (by kernel_rfl) (fun _ _ _ h => h) (Or.inl ⟨by rfl, ?_⟩) (by assumption) ?_
 ·intro w hSw; (try dsimp only at hSw); obtain ⟨hSb, lk⟩ := hSw; obtain ⟨q1, q2, m1, c0, c1, c2, c3, c4⟩ := HQ8.out w hSb; go_simp <;> (intros; omega)
 simp only [Act.put, List.setIfInBounds_toArray, List.set_cons_zero, List.set_cons_succ]
 refine takeD 1 (some 50) (.pointer (some ⟨w1.heap.size, 1, none⟩)) rfl rfl (by kernel_rfl) (by kernel_rfl) (by kernel_rfl) (fun _ _ _ h => h) (Or.inl ⟨by rfl, ?_⟩) (by assumption) ?_
 ·intro w hSw; (try dsimp only at hSw); obtain ⟨hSb, lk⟩ := hSw; obtain ⟨q1, q2, m1, c0, c1, c2, c3, c4⟩ := HQ8.out w hSb; go_simp <;> (intros; omega)
 simp only [Act.put, List.setIfInBounds_toArray, List.set_cons_zero, List.set_cons_succ]
 refine takeD 2 (some 51) (.int .i64 t) rfl rfl (by kernel_rfl) (by kernel_rfl) (by kernel_rfl) (fun _ _ _ h => h) (Or.inl ⟨by rfl, ?_⟩) (by assumption) ?_
 ·intro w hSw; (try dsimp only at hSw); obtain ⟨hSb, lk⟩ := hSw; obtain ⟨q1, q2, m1, c0, c1, c2, c3, c4⟩ := HQ8.out w hSb; go_simp <;> (intros; omega)
 simp only [Act.put, List.setIfInBounds_toArray, List.set_cons_zero, List.set_cons_succ]
 refine takeD 3 (some 52) (.pointer (some ⟨wm.heap.size, 0, none⟩)) rfl rfl (by kernel_rfl) (by kernel_rfl) (by kernel_rfl) (fun _ _ _ h => h) (Or.inl ⟨by rfl, ?_⟩) (by assumption) ?_
 ·intro w hSw; (try dsimp only at hSw); obtain ⟨hSb, lk⟩ := hSw; obtain ⟨q1, q2, m1, c0, c1, c2, c3, c4⟩ := HQ8.out w hSb; go_simp <;> (intros; omega)
 simp only [Act.put, List.setIfInBounds_toArray, List.set_cons_zero, List.set_cons_succ]
 refine takeD 4 (some 53) (.pointer (some ⟨wm.heap.size, 0, none⟩)) rfl rfl (by kernel_rfl) (by kernel_rfl) (by kernel_rfl) (fun _ _ _ h => h) (Or.inl ⟨by rfl, ?_⟩) (by assumption) ?_
 ·intro w hSw; (try dsimp only at hSw); obtain ⟨hSb, lk⟩ := hSw; obtain ⟨q1, q2, m1, c0, c1, c2, c3, c4⟩ := HQ8.out w hSb; go_simp <;> (intros; omega)
 simp only [Act.put, List.setIfInBounds_toArray, List.set_cons_zero, List.set_cons_succ]
 refine takeD 5 (some 54) (.pointer (some ⟨wm.heap.size, 1, none⟩)) rfl rfl (by kernel_rfl) (by kernel_rfl) (by kernel_rfl) (fun _ _ _ h => h) (Or.inl ⟨by rfl, ?_⟩) (by assumption) ?_
 ·intro w hSw; (try dsimp only at hSw); obtain ⟨hSb, lk⟩ := hSw; obtain ⟨q1, q2, m1, c0, c1, c2, c3, c4⟩ := HQ8.out w hSb; go_simp <;> (intros; omega)
 simp only [Act.put, List.setIfInBounds_toArray, List.set_cons_zero, List.set_cons_succ]
 refine takeD 6 (some 55) (.map (some w4.heap.size)) rfl rfl (by kernel_rfl) (by kernel_rfl) (by kernel_rfl) (fun _ _ _ h => h) (Or.inl ⟨by rfl, ?_⟩) (by assumption) ?_
 ·intro w hSw; (try dsimp only at hSw); obtain ⟨hSb, lk⟩ := hSw; obtain ⟨q1, q2, m1, c0, c1, c2, c3, c4⟩ := HQ8.out w hSb; go_simp <;> (intros; omega)
 simp only [Act.put, List.setIfInBounds_toArray, List.set_cons_zero, List.set_cons_succ]
 refine takeD 7 (some 56) (.pointer (some ⟨w1.heap.size, 2, none⟩)) rfl rfl (by kernel_rfl) (by kernel_rfl) (by kernel_rfl) (fun _ _ _ h => h) (Or.inl ⟨by rfl, ?_⟩) (by assumption) ?_
 ·intro w hSw; (try dsimp only at hSw); obtain ⟨hSb, lk⟩ := hSw; obtain ⟨q1, q2, m1, c0, c1, c2, c3, c4⟩ := HQ8.out w hSb; go_simp <;> (intros; omega)
 simp only [Act.put, List.setIfInBounds_toArray, List.set_cons_zero, List.set_cons_succ]
 refine takeD 8 (some 57) (.string (foldD t d)) rfl rfl (by kernel_rfl) (by kernel_rfl) (by kernel_rfl) (fun _ _ _ h => h) (Or.inl ⟨by rfl, ?_⟩) (by assumption) ?_
 ·intro w hSw; (try dsimp only at hSw); obtain ⟨hSb, lk⟩ := hSw; obtain ⟨q1, q2, m1, c0, c1, c2, c3, c4⟩ := HQ8.out w hSb; go_simp <;> (intros; omega)
 simp only [Act.put, List.setIfInBounds_toArray, List.set_cons_zero, List.set_cons_succ]
 refine takeD 9 (some 58) (.agg #[.string o, .int .i64 t, .int .i64 c, .int .i64 l, .string d]) rfl rfl (by kernel_rfl) (by kernel_rfl) (by kernel_rfl) (fun _ _ _ h => h) (Or.inl ⟨by rfl, ?_⟩) (by assumption) ?_
 ·intro w hSw; (try dsimp only at hSw); obtain ⟨hSb, lk⟩ := hSw; obtain ⟨q1, q2, m1, c0, c1, c2, c3, c4⟩ := HQ8.out w hSb; go_simp <;> (intros; omega)
 simp only [Act.put, List.setIfInBounds_toArray, List.set_cons_zero, List.set_cons_succ]
 refine wpAnyH_ready (rs := [10]) (by kernel_rfl) (by simp) ?_
 refine AllReadyH.cons rfl (fun K hK => ?_) AllReadyH.nil
 go_simp
 go_wp2_with fail
 refine hK.out _ _ (⟨⟨HK7.out HB6.out, HK7.out HX6.out, HK7.out HS6.out⟩, HL7.out⟩) (fun hHeld => ?_)
 clear hK K
 try simp only [Act.put, List.setIfInBounds_toArray, List.set_cons_zero, List.set_cons_succ]
 refine wpAnyH_done (by kernel_rfl) ?_ _
 clear hHeld
 have HFl := hide' (HWf.out.put ⟨o, t, c, l, d⟩)
 have HOe : Hid (modO u.o (modT t fun s' => { s' with R := outK rkS (foldD t d) s'.R ++ [(⟨o, t, c, l, d⟩ : Rn)] }) (modO u.o (modT t fun s => { s with age := l }) (modO u.o (fun T => T ++ [⟨t, wm.heap.size, w4.heap.size, 0, []⟩]) O1)) = modO (foldB o) (modT t fun s => { s with age := l, R := outK rkS (foldD t d) s.R ++ [(⟨o, t, c, l, d⟩ : Rn)] }) (modO u.o (fun T => T ++ [⟨t, wm.heap.size, w4.heap.size, 0, []⟩]) O1)) := by
  unfold Hid
  rw [modO_modO, HU.out.2]
  congr 1
  funext T
  exact modT_modT t (fun s => { s with age := l }) (fun s' => { s' with R := outK rkS (foldD t d) s'.R ++ [(⟨o, t, c, l, d⟩ : Rn)] }) (fun _ => rfl) T
 have HBe : Hid (BkU base w w7) := by
  have l2 := HG2.out.size
  have l4 := HG4.out.size
  have lq := HGq.out.size
  have lr := HGr.out.size
  have hM0 := HDr.out.m0
  have l5 := HG5.out.size
  have ln := HGn.out.size
  have lS := HGS.out.size
  have hmu := HD4.out.ml u HU.out.1
  have l6 := HG6.out.size
  have hlo := HLo.out
  have hml := HDS.out.ml _ HMS.out.1
  refine ⟨?_, ((((((((rk_none HG2.out).trans (rk_none HGq.out)).trans (rk_map HDq.out.om HGr.out)).trans (rk_none HG4.out)).trans (rk_none HGn.out)).trans (rk_map (HDn.out.tm u HU.out.1) HGS.out)).trans (rk_box HS4.out HG5.out)).trans (rk_none HG6.out)).trans (rk_map HRm6.out HG7.out)⟩
  exact ((((((((belowU HG2.out (fun k e => by cases e) hlo).trans (belowU HGq.out (fun k e => by cases e) (by omega))).trans (belowU HGr.out (fun k e => by injection e with e; rw [← e]; exact hM0) (by omega))).trans (belowU HG4.out (fun k e => by cases e) (by omega))).trans (belowU HGn.out (fun k e => by cases e) (by omega))).trans (belowU HGS.out (fun k e => by injection e with e; rw [← e]; exact hmu.1) (by omega))).trans (belowU HG5.out (fun k e => by injection e with e; rw [← e]; exact (hml.2 _ HMS.out.2).1) (by omega))).trans (belowU HG6.out (fun k e => by cases e) (by omega))).trans (belowU HG7.out (fun k e => by injection e with e; rw [← e]; exact (hml.2 _ HMS.out.2).2) (by omega))
 have HCn : Hid (∀ k, CntU O k k k → CntU (modO (foldB o) (modT t fun s => { s with age := l, R := outK rkS (foldD t d) s.R ++ [(⟨o, t, c, l, d⟩ : Rn)] }) (modO u.o (fun T => T ++ [⟨t, wm.heap.size, w4.heap.size, 0, []⟩]) O1)) (k + 1) (k + 1) (k + 1)) := fun k hk => (((HC1.out _ _ _ hk).addS u.o t wm.heap.size w4.heap.size).put (foldB o) t (fun s => { s with age := l, R := outK rkS (foldD t d) s.R ++ [(⟨o, t, c, l, d⟩ : Rn)] }) (fun s => outK_le)).mono (by omega) (by omega) (by omega)
 go_wp2_with fail
 go_end0
 exact ⟨rfl, ⟨_, HOe.out ▸ HD7.out, HFl.out, (by have h9 := HCn.out; rw [hO0] at h9; exact h9)⟩, HBe.out⟩
end Go.Proofs.YtoabnpdoicbpiaaGreat
namespace Go.Proofs.YtoabnpdoicbpiaaGreat
set_option linter.unusedVariables false
set_option linter.unusedSimpArgs false
open Go.RowKit Go.Shelf Go.Maps Go.Proofs.YtoabnpdoicbpiaaGreat.Nm
theorem putU_any {w : World} {base D M k : Nat} {apex o d : ByteArray} {soa : Rn} {O : List Uo} {E : List Rn} {t c l : Int} (h : Dra w base D M apex soa O) (hF : Flu O E) (hk : CntU O k k k) (hkm : k < maxLen) (hlo : base ≤ w.heap.size) (ho : o.size ≤ maxLen) (hd : d.size ≤ maxLen) (hx : usG (foldB o)) (hr : usG (foldD t d)) (ht : uiG t) :
  Calls Tryz.prog 58 #[.pointer (some ⟨D, 0, none⟩), .agg #[.string o, .int .i64 t, .int .i64 c, .int .i64 l, .string d]] w (putUE w base D M apex soa O E ⟨o, t, c, l, d⟩) := by
 by_cases h1 : ∃ u ∈ O, u.o = foldB o
 ·obtain ⟨u, hu, huo⟩ := h1
  by_cases h2 : ∃ s ∈ u.T, s.t = t
  ·exact putU_there h (hF.weak ⟨u, hu, huo, h2⟩) hlo ho hd hx hr ht (fun u hu s hs => Nat.lt_of_le_of_lt ((hk.2 u hu).2 s hs) hkm)
  ·exact putU_new h hF hu huo (fun s hs e => h2 ⟨s, hs, e⟩) hlo ho hd hx hr ht (Nat.lt_of_le_of_lt (hk.2 u hu).1 hkm)
 ·exact putU_owner h hF (fun u hu e => h1 ⟨u, hu, e⟩) hlo ho hd hx hr ht (Nat.lt_of_le_of_lt hk.1 hkm)
end Go.Proofs.YtoabnpdoicbpiaaGreat
namespace Go.Proofs.YtoabnpdoicbpiaaGreat
set_option linter.unusedVariables false
set_option linter.unusedSimpArgs false
open Go.RowKit Go.Shelf Go.Maps Go.Proofs.YtoabnpdoicbpiaaGreat.Nm
set_option maxRecDepth 100000 in
theorem beside_any (t : Int) (w : World) : Calls Tryz.prog 92 #[.int .i64 t] w fun e w' => e = .returned (.bool (besB t)) ∧ w' = w := by
 unfold besB
 by_cases h1 : t = 46
 ·subst h1
  go_enter Tryz.func92, Tryz.ntmps92
  go_wp2_with fail
  go_ret
  exact ⟨rfl, rfl⟩
 ·have b1 : (t == 46) = false := by rw [beq_eq_false_iff_ne]; exact h1
  by_cases h2 : t = 47
  ·subst h2
   go_enter Tryz.func92, Tryz.ntmps92
   go_wp2_with fail
   go_ret
   exact ⟨rfl, rfl⟩
  ·have b2 : (t == 47) = false := by rw [beq_eq_false_iff_ne]; exact h2
   go_enter Tryz.func92, Tryz.ntmps92
   go_wp2_with fail
   go_ret
   exact ⟨by simp [h1, h2], rfl⟩
end Go.Proofs.YtoabnpdoicbpiaaGreat
namespace Go.Proofs.YtoabnpdoicbpiaaGreat
set_option linter.unusedVariables false
set_option linter.unusedSimpArgs false
open Go.RowKit Go.Shelf Go.Maps Go.Proofs.YtoabnpdoicbpiaaGreat.Nm
theorem Flu.alias {O : List Uo} {E : List Rn} (h : Flu O E) (o : ByteArray) : aliasU E o = true ↔ ∃ u ∈ O, u.o = o ∧ ∃ s ∈ u.T, s.t = 5 := by
 unfold aliasU
 rw [List.any_eq_true]
 constructor
 ·rintro ⟨e, he, q⟩
  have q := of_decide_eq_true q
  obtain ⟨u, hu, e1, s, hs, e2⟩ := h.all e he
  exact ⟨u, hu, e1.trans (congrArg Prod.fst q), s, hs, e2.trans (congrArg Prod.snd q)⟩
 ·rintro ⟨u, hu, rfl, s, hs, e2⟩
  obtain ⟨h1, h2, _⟩ := h.rs u hu s hs
  obtain ⟨x, hx⟩ := List.exists_mem_of_ne_nil _ h2
  have h3 := h1.mem_iff.1 hx
  obtain ⟨h4, h5⟩ := List.mem_filter.1 h3
  exact ⟨x, h4, by rw [e2] at h5; exact h5⟩
def addUE (w : World) (base D M : Nat) (apex : ByteArray) (soa : Rn) (O : List Uo) (E : List Rn) (r : Rn) (e : Ending) (w' : World) : Prop := e = .returned (.tuple #[]) ∧ (∃ O', Dra w' base D M apex soa O' ∧ Flu O' (addU E r) ∧ ∀ k, CntU O k k k → CntU O' (k + 1) (k + 1) (k + 1)) ∧ BkU base w w'
end Go.Proofs.YtoabnpdoicbpiaaGreat
namespace Go.Proofs.YtoabnpdoicbpiaaGreat
set_option linter.unusedVariables false
set_option linter.unusedSimpArgs false
open Go.RowKit Go.Shelf Go.Maps Go.Proofs.YtoabnpdoicbpiaaGreat.Nm
theorem lookNil (t : Int) (h : uiG t) (V : World) : (Instr.lookup 107 (.map none) (.int .i64 t) false).run Tryz.prog V = .ok (.pointer none) V := by
 have h1 : (Instr.checkKey true 10000 3 (.int .i64 t)).run Tryz.prog V = .ok () V := MapKept.run_checkKey Tryz.underlying3 (by simp [MapKept.IsKey]) true 9999
 have h2 : (Instr.findKey 3 (.int .i64 t) []).run Tryz.prog V = .ok none V := MapKept.run_findKey Tryz.underlying3 (by rfl)
 simp [Instr.lookup, run_underlying Tryz.underlying107, h1, h2, upZero, Result.andThen]
theorem add_looks {O : List Uo} {E : List Rn} (hF : Flu O E) (o : ByteArray) : (umAt o O = .map none ∧ aliasU E o = false) ∨ ∃ u ∈ O, u.o = o ∧ umAt o O = .map (some u.b) ∧ ((upAt 5 u.T = .pointer none ∧ aliasU E o = false) ∨ ∃ s ∈ u.T, upAt 5 u.T = upV s.b ∧ aliasU E o = true) := by
 cases h1 : atK Uo.o o O with
 | none =>
  refine .inl ⟨by unfold umAt; rw [h1]; rfl, ?_⟩
  rw [Bool.eq_false_iff]
  intro h
  obtain ⟨u, hu, e, _⟩ := (hF.alias o).1 h
  exact atK_none.1 h1 u hu e
 | some u =>
  obtain ⟨hu, e⟩ := atK_some h1
  refine .inr ⟨u, hu, e, by unfold umAt; rw [h1]; rfl, ?_⟩
  cases h2 : atK Ust.t 5 u.T with
  | none =>
   refine .inl ⟨by unfold upAt; rw [h2]; rfl, ?_⟩
   rw [Bool.eq_false_iff]
   intro h
   obtain ⟨v, hv, e2, s, hs, e3⟩ := (hF.alias o).1 h
   obtain rfl := nodup_one hF.on hu hv (e.trans e2.symm)
   exact atK_none.1 h2 s hs e3
  | some s =>
   obtain ⟨hs, e3⟩ := atK_some h2
   exact .inr ⟨s, hs, by unfold upAt; rw [h2]; rfl, (hF.alias o).2 ⟨u, hu, e, s, hs, e3⟩⟩
theorem addU_put {E : List Rn} {r : Rn} (h : besB r.t = true ∨ aliasU E (foldB r.o) = false) : addU E r = putU E r := by
 unfold addU effU
 rcases h with h | h <;> rw [h] <;> simp
theorem addU_not {E : List Rn} {r : Rn} (h1 : besB r.t = false) (h2 : aliasU E (foldB r.o) = true) : addU E r = E := by
 unfold addU effU
 rw [h1, h2]
 simp
set_option maxRecDepth 100000 in
theorem ptrNe (b : Nat) (w : World) : Sem.run Tryz.prog (binOp BinOp.eql 108 (Value.pointer (some ⟨b, 0, none⟩)) (Value.pointer none)) w = .ok (.bool false) w := by rfl
set_option maxRecDepth 100000 in
theorem ptrEq (w : World) : Sem.run Tryz.prog (binOp BinOp.eql 108 (Value.pointer none) (Value.pointer none)) w = .ok (.bool true) w := by rfl
set_option maxRecDepth 100000 in
set_option maxHeartbeats 8000000 in
theorem addU_any {w : World} {base D M k : Nat} {apex o d : ByteArray} {soa : Rn} {O : List Uo} {E : List Rn} {t c l : Int} (h : Dra w base D M apex soa O) (hF : Flu O E) (hk : CntU O k k k) (hkm : k < maxLen) (hlo : base ≤ w.heap.size) (ho : o.size ≤ maxLen) (hd : d.size ≤ maxLen) (hx : usG (foldB o)) (hr : usG (foldD t d)) (ht : uiG t) (h5 : t ≠ 5) (h6 : t ≠ 6) :
  Calls Tryz.prog 59 #[.pointer (some ⟨D, 0, none⟩), .agg #[.string o, .int .i64 t, .int .i64 c, .int .i64 l, .string d]] w (addUE w base D M apex soa O E ⟨o, t, c, l, d⟩) := by
 obtain ⟨wb, hwb⟩ : ∃ v, w.alloc (.cells #[.string o, .int .i64 t, .int .i64 c, .int .i64 l, .string d] 29) = v := ⟨_, rfl⟩
 have HGb : Hid (w.grownBy wb none) := hwb ▸ World.grownBy_alloc w _ none
 have HBb : Hid (Bx wb w.heap.size #[.string o, .int .i64 t, .int .i64 c, .int .i64 l, .string d] 29) := hwb ▸ World.alloc_heap_new w _
 have HLo := hide' hlo
 have HBl : Hid (BkU base w wb) := ⟨belowU HGb.out (fun _ e => by cases e) hlo, rk_none HGb.out⟩
 have HFo := hide' (fold_any o wb ho)
 have HBe := hide' (fun V => beside_any t V)
 have HX := hide' hx
 have b5 : (t == 5) = false := by rw [beq_eq_false_iff_ne]; exact h5
 have b6 : (t == 6) = false := by rw [beq_eq_false_iff_ne]; exact h6
 have HQ : Hid (∀ V, Below wb.heap.size wb V → Dra V base D M apex soa O ∧ base ≤ V.heap.size ∧ V.cell? ⟨w.heap.size, 0, none⟩ = some (.string o) ∧ V.cell? ⟨w.heap.size, 1, none⟩ = some (.int .i64 t) ∧ V.cell? ⟨w.heap.size, 2, none⟩ = some (.int .i64 c) ∧ V.cell? ⟨w.heap.size, 3, none⟩ = some (.int .i64 l) ∧ V.cell? ⟨w.heap.size, 4, none⟩ = some (.string d) ∧ V.cell? ⟨D, 6, none⟩ = some (.map (some M)) ∧ (Instr.lookup 70 (.map (some M)) (.string (foldB o)) false).run Tryz.prog V = .ok (umAt (foldB o) O) V ∧ BkU base w V) := fun V hV => by
  have hD := (h.idle HGb.out).idle (grown_below hV none)
  have hX := HBb.out.grown (grown_below hV none) (by simp)
  obtain ⟨c0, c1, c2, c3, c4⟩ := bx5U hX
  have hs := HGb.out.size
  have hs2 := hV.size
  exact ⟨hD, by omega, c0, c1, c2, c3, c4, hD.bx.cell rfl, hD.om.look hx, belowU (grown_trans HGb.out (grown_below hV none)) (fun _ e => by cases e) hlo, rk_none (grown_trans HGb.out (grown_below hV none))⟩
 have HPut : Hid (∀ V, Dra V base D M apex soa O → base ≤ V.heap.size → Calls Tryz.prog 58 #[.pointer (some ⟨D, 0, none⟩), .agg #[.string o, .int .i64 t, .int .i64 c, .int .i64 l, .string d]] V (putUE V base D M apex soa O E ⟨o, t, c, l, d⟩)) := fun V hV hl => putU_any hV hF hk hkm hl ho hd hx hr ht
 have HEnd : Hid (∀ V e w', (besB t = true ∨ aliasU E (foldB o) = false) → BkU base w V → putUE V base D M apex soa O E ⟨o, t, c, l, d⟩ e w' → addUE w base D M apex soa O E ⟨o, t, c, l, d⟩ e w') := fun V e w' hb hB hp => by
  obtain ⟨h1, ⟨O', h2, h3, h4⟩, h5⟩ := hp
  exact ⟨h1, ⟨O', h2, by rw [addU_put hb]; exact h3, h4⟩, hB.trans h5⟩
 have HSt : Hid (∀ V, aliasU E (foldB o) = true → besB t = false → Dra V base D M apex soa O → BkU base w V → addUE w base D M apex soa O E ⟨o, t, c, l, d⟩ (.returned (.tuple #[])) V) := fun V ha hb hD hB =>
  ⟨rfl, ⟨O, hD, by rw [addU_not hb ha]; exact hF, fun k hk => hk.mono (Nat.le_succ _) (Nat.le_succ _) (Nat.le_succ _)⟩, hB⟩
 have HLk := add_looks hF (foldB o)
 obtain ⟨F, hFe⟩ : ∃ F, foldB o = F := ⟨_, rfl⟩
 obtain ⟨Y, hYe⟩ : ∃ Y, umAt F O = Y := ⟨_, rfl⟩
 rw [hFe] at HFo HX HQ HEnd HSt HLk
 rw [hYe] at HQ HLk
 clear h hF hk hkm hlo ho hd hx hr ht h5 h6 hFe
 cases hb : besB t with
 | true =>
  rw [hb] at HBe
  have HE2 : Hid (∀ V e w', BkU base w V → putUE V base D M apex soa O E ⟨o, t, c, l, d⟩ e w' → addUE w base D M apex soa O E ⟨o, t, c, l, d⟩ e w') := fun V e w' => HEnd.out V e w' (.inl hb)
  clear hb hYe HLk
  obtain ⟨_, _, c0, c1, c2, c3, c4, _⟩ := HQ.out wb (Below.refl _ _)
  go_enter Tryz.func59, Tryz.ntmps59
  go_wp2_with (first
   | (go_at_call 37; refine HFo.out.mono ?_; rintro e1 w1 ⟨rfl, hB1⟩; obtain ⟨hD, hS, c0, c1, c2, c3, c4, d6, lk, hBL⟩ := HQ.out w1 hB1; have HD := hide' hD; have HS := hide' hS; have HBL := hide' hBL; clear hD hS hBL hB1 lk)
   | (go_at_call 92; refine (HBe.out _).mono ?_; rintro e2 w2 ⟨rfl, hw2⟩; subst hw2)
   | (go_at_call 58; refine (HPut.out _ HD.out HS.out).mono ?_; intro e3 w3 hp; obtain ⟨rfl, hp2⟩ := HE2.out _ _ _ HBL.out hp; have HP := hide' hp2; clear hp hp2))
  go_end0
  exact ⟨rfl, HP.out⟩
 | false =>
  rw [hb] at HBe
  have HBf := hide' hb
  rcases HLk with ⟨hY, ha⟩ | ⟨u, hu, huo, hY, ⟨hU, ha⟩ | ⟨s, hs, hU, ha⟩⟩
  ·have HE2 : Hid (∀ V e w', BkU base w V → putUE V base D M apex soa O E ⟨o, t, c, l, d⟩ e w' → addUE w base D M apex soa O E ⟨o, t, c, l, d⟩ e w') := fun V e w' => HEnd.out V e w' (.inr ha)
   subst hY
   clear hb hYe ha
   obtain ⟨_, _, c0, c1, c2, c3, c4, _⟩ := HQ.out wb (Below.refl _ _)
   go_enter Tryz.func59, Tryz.ntmps59
   go_wp2_with (first
    | (go_at_call 37; refine HFo.out.mono ?_; rintro e1 w1 ⟨rfl, hB1⟩; obtain ⟨hD, hS, c0, c1, c2, c3, c4, d6, lk, hBL⟩ := HQ.out w1 hB1; have lk2 := lookNil 5 (by unfold uiG; decide) w1; have pe := ptrEq w1; have HD := hide' hD; have HS := hide' hS; have HBL := hide' hBL; clear hD hS hBL hB1)
    | (go_at_call 92; refine (HBe.out _).mono ?_; rintro e2 w2 ⟨rfl, hw2⟩; subst hw2)
    | (go_at_call 58; refine (HPut.out _ HD.out HS.out).mono ?_; intro e3 w3 hp; obtain ⟨rfl, hp2⟩ := HE2.out _ _ _ HBL.out hp; have HP := hide' hp2; clear hp hp2))
   go_end0
   exact ⟨rfl, HP.out⟩
  ·have HE2 : Hid (∀ V e w', BkU base w V → putUE V base D M apex soa O E ⟨o, t, c, l, d⟩ e w' → addUE w base D M apex soa O E ⟨o, t, c, l, d⟩ e w') := fun V e w' => HEnd.out V e w' (.inr ha)
   have HL2 : Hid (∀ V, Dra V base D M apex soa O → (Instr.lookup 107 (.map (some u.b)) (.int .i64 5) false).run Tryz.prog V = .ok (.pointer none) V) := fun V hV => by
    have := (hV.tm u hu).look (t := 5) (by unfold uiG; decide)
    rw [hU] at this
    exact this
   subst hY
   clear hb hYe ha hu huo hU
   obtain ⟨_, _, c0, c1, c2, c3, c4, _⟩ := HQ.out wb (Below.refl _ _)
   go_enter Tryz.func59, Tryz.ntmps59
   go_wp2_with (first
    | (go_at_call 37; refine HFo.out.mono ?_; rintro e1 w1 ⟨rfl, hB1⟩; obtain ⟨hD, hS, c0, c1, c2, c3, c4, d6, lk, hBL⟩ := HQ.out w1 hB1; have lk2 := HL2.out w1 hD; have pe := ptrEq w1; have HD := hide' hD; have HS := hide' hS; have HBL := hide' hBL; clear hD hS hBL hB1)
    | (go_at_call 92; refine (HBe.out _).mono ?_; rintro e2 w2 ⟨rfl, hw2⟩; subst hw2)
    | (go_at_call 58; refine (HPut.out _ HD.out HS.out).mono ?_; intro e3 w3 hp; obtain ⟨rfl, hp2⟩ := HE2.out _ _ _ HBL.out hp; have HP := hide' hp2; clear hp hp2))
   go_end0
   exact ⟨rfl, HP.out⟩
  ·have HE2 : Hid (∀ V, Dra V base D M apex soa O → BkU base w V → addUE w base D M apex soa O E ⟨o, t, c, l, d⟩ (.returned (.tuple #[])) V) := fun V => HSt.out V ha HBf.out
   have HL2 : Hid (∀ V, Dra V base D M apex soa O → (Instr.lookup 107 (.map (some u.b)) (.int .i64 5) false).run Tryz.prog V = .ok (.pointer (some ⟨s.b, 0, none⟩)) V) := fun V hV => by
    have := (hV.tm u hu).look (t := 5) (by unfold uiG; decide)
    rw [hU] at this
    exact this
   subst hY
   clear hb hYe ha hu huo hU hs
   obtain ⟨_, _, c0, c1, c2, c3, c4, _⟩ := HQ.out wb (Below.refl _ _)
   go_enter Tryz.func59, Tryz.ntmps59
   go_wp2_with (first
    | (go_at_call 37; refine HFo.out.mono ?_; rintro e1 w1 ⟨rfl, hB1⟩; obtain ⟨hD, hS, c0, c1, c2, c3, c4, d6, lk, hBL⟩ := HQ.out w1 hB1; have lk2 := HL2.out w1 hD; have pe := ptrNe s.b w1; have HD := hide' hD; have HS := hide' hS; have HBL := hide' hBL; clear hD hS hBL hB1)
    | (go_at_call 92; refine (HBe.out _).mono ?_; rintro e2 w2 ⟨rfl, hw2⟩; subst hw2))
   go_end0
   exact HE2.out _ HD.out HBL.out
set_option maxRecDepth 100000 in
set_option maxHeartbeats 8000000 in
theorem changeU_any {w : World} {base D M k : Nat} {apex o d : ByteArray} {soa : Rn} {O : List Uo} {E : List Rn} {t l : Int} (h : Dra w base D M apex soa O) (hF : Flu O E) (hk : CntU O k k k) (hkm : k < maxLen) (hlo : base ≤ w.heap.size) (ho : o.size ≤ maxLen) (hd : d.size ≤ maxLen) (hx : usG (foldB o)) (hr : usG (foldD t d)) (ht : uiG t) (h5 : t ≠ 5) (h6 : t ≠ 6) :
  Calls Tryz.prog 25 #[.pointer (some ⟨D, 0, none⟩), .agg #[.string o, .int .i64 t, .int .i64 1, .int .i64 l, .string d]] w (addUE w base D M apex soa O E ⟨o, t, 1, l, d⟩) := by
 obtain ⟨wb, hwb⟩ : ∃ v, w.alloc (.cells #[.string o, .int .i64 t, .int .i64 1, .int .i64 l, .string d] 29) = v := ⟨_, rfl⟩
 have HGb : Hid (w.grownBy wb none) := hwb ▸ World.grownBy_alloc w _ none
 have HBb : Hid (Bx wb w.heap.size #[.string o, .int .i64 t, .int .i64 1, .int .i64 l, .string d] 29) := hwb ▸ World.alloc_heap_new w _
 have HBl : Hid (BkU base w wb) := ⟨belowU HGb.out (fun _ e => by cases e) hlo, rk_none HGb.out⟩
 obtain ⟨c0, c1, c2, c3, c4⟩ := bx5U HBb.out
 have HA := hide' (addU_any (c := 1) (l := l) (h.idle HGb.out) hF hk hkm (Nat.le_trans hlo HGb.out.size) ho hd hx hr ht h5 h6)
 clear h hF hk hkm hlo ho hd hx hr ht h5 h6
 go_enter Tryz.func25, Tryz.ntmps25
 go_wp2_with (go_at_call 59; refine HA.out.mono ?_; rintro e1 w1 ⟨rfl, h2, h3⟩; have H2 := hide' h2; have H3 := hide' h3; clear h2 h3)
 go_end0
 exact ⟨rfl, H2.out, HBl.out.trans H3.out⟩
end Go.Proofs.YtoabnpdoicbpiaaGreat
