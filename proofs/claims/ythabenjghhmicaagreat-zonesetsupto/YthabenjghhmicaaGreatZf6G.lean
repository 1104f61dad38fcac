import Derived.Test.YthabenjghhmicaaGreatZf1G
/-
  Proofs: (*zone.Zone).findAbsent. (The verifier's own text.)
-/
namespace Go.Proofs.YthabenjghhmicaaGreat
set_option linter.unusedVariables false
set_option linter.unusedSimpArgs false
open Go.RowKit Go.Shelf Go.Maps Go.Proofs.YthabenjghhmicaaGreat.Nm Go.Proofs.YthabenjghhmicaaGreat.Zs

theorem rce5_atZ {L : List Rn} {j : Nat} (hj : j < L.length) (rest : List Value) : rce5 L ++ rest = rce5 (L.take j) ++ (ren5 L[j] ++ (rce5 (L.drop (j + 1)) ++ rest)) := by
  have e : rce5 L = rce5 (L.take j ++ L[j] :: L.drop (j + 1)) := by rw [← list_split hj]
  rw [e, rce5_app]
  show rce5 (L.take j) ++ (ren5 L[j] ++ rce5 (L.drop (j + 1))) ++ rest = _
  simp only [List.append_assoc]
theorem rce5_putZ {L : List Rn} {j : Nat} (hj : j < L.length) (r : Rn) (rest : List Value) : rce5 (L.set j r) ++ rest = rce5 (L.take j) ++ (ren5 r ++ (rce5 (L.drop (j + 1)) ++ rest)) := by
  rw [List.set_eq_take_append_cons_drop, if_pos hj, rce5_app]
  show rce5 (L.take j) ++ (ren5 r ++ rce5 (L.drop (j + 1))) ++ rest = _
  simp only [List.append_assoc]
theorem Rb.ownerZ {w : World} {g : Nat} {L : List Rn} {rest : List Value} (h : Rb w g L rest) {j : Nat} (hj : j < L.length) (o : ByteArray) : Rb (w.setCell ⟨g, j * 5, none⟩ (.string o)) g (L.set j ⟨o, L[j].t, L[j].c, L[j].l, L[j].d⟩) rest := by
  unfold Rb at h ⊢
  have hl : (rce5 (L.take j)).length = j * 5 := by rw [rce5_len, List.length_take]; congr 1; omega
  rw [rce5_atZ hj] at h
  rw [rce5_putZ hj]
  have h2 := Bx.set h (j * 5) (.string o)
  have e : (rce5 (L.take j) ++ (ren5 L[j] ++ (rce5 (L.drop (j + 1)) ++ rest))).toArray.setIfInBounds (j * 5) (.string o) = (rce5 (L.take j) ++ (ren5 ⟨o, L[j].t, L[j].c, L[j].l, L[j].d⟩ ++ (rce5 (L.drop (j + 1)) ++ rest))).toArray := by
    rw [← hl]
    exact set_list (B := []) _
  rw [e] at h2
  exact h2

/-! ### names on the way up to the apex -/
/-- a folded name within the apex -/
structure InA (apex m : ByteArray) : Prop where
  nm : isN m = true
  fo : foldB m = m
  wi : withinB m apex = true
theorem put_size {l : List ByteArray} (h : OkL l) : (putB (l.map lowB)).size = (putB l).size := by
  rw [putB_low l (fun x hx => (h x hx).2), lowB_size]
theorem InA.cases {apex m : ByteArray} (h : InA apex m) (na : isN apex = true) : (labs m).length = (labs apex).length ∧ m = foldB apex ∨ (labs apex).length < (labs m).length ∧ apex.size < m.size := by
  obtain ⟨_, _, h1, h2⟩ := (withinB_iff m apex).1 h.wi
  have sm : m.size = (putB (labs m)).size := by rw [putB_labs h.nm]
  have sa : apex.size = (putB (labs apex)).size := by rw [putB_labs na]
  rcases Nat.lt_or_ge (labs apex).length (labs m).length with hl | hl
  · right
    refine ⟨hl, ?_⟩
    have e : labs m = (labs m).take ((labs m).length - (labs apex).length) ++ (labs m).drop ((labs m).length - (labs apex).length) := (List.take_append_drop _ _).symm
    have s1 : (putB ((labs m).drop ((labs m).length - (labs apex).length))).size = apex.size := by
      rw [sa, ← put_size ((okL_labs m).drop _), h2, put_size (okL_labs apex)]
    have s2 : (putB (labs m)).size = (chunks ((labs m).take ((labs m).length - (labs apex).length))).size + (putB ((labs m).drop ((labs m).length - (labs apex).length))).size := by
      conv => lhs; rw [e, putB_append]
      rw [ByteArray.size_append]
    have s3 := chunks_len ((labs m).take ((labs m).length - (labs apex).length))
    rw [List.length_take] at s3
    omega
  · left
    have hle : (labs m).length = (labs apex).length := by omega
    refine ⟨hle, ?_⟩
    rw [hle, Nat.sub_self, List.drop_zero] at h2
    have e1 : lowB m = lowB apex := by rw [← putB_low_labs h.nm, ← putB_low_labs na, h2]
    rw [← h.fo, foldB_yes h.nm, foldB_yes na, e1]
theorem InA.up {apex m : ByteArray} (h : InA apex m) (na : isN apex = true) (hs : apex.size < m.size) : InA apex (abvB m) := by
  have h1 : 1 < m.size := by have := isN_pos na; omega
  obtain ⟨a1, a2, a3, a4⟩ := abv_name h.nm h1
  have hlen := (abv_put h.nm h1).2
  rw [List.length_drop] at hlen
  have hlow : (labs m).map lowB = labs m := by
    have := (zisN_fold h.nm).2
    rw [h.fo] at this
    exact this.symm
  refine ⟨a1, ?_, ?_⟩
  · rw [foldB_yes a1, ← putB_low_labs a1, a2, List.map_drop, hlow, ← (abv_put h.nm h1).1]
  · obtain ⟨_, _, h2, h3⟩ := (withinB_iff m apex).1 h.wi
    rcases h.cases na with ⟨he, hm⟩ | ⟨hl, _⟩
    · exfalso
      have : m.size = apex.size := by rw [hm, foldB_yes na, lowB_size]
      omega
    · rw [withinB_iff]
      refine ⟨a1, na, by rw [a2, List.length_drop]; omega, ?_⟩
      rw [a2, List.length_drop, List.drop_drop, show 1 + ((labs m).length - 1 - (labs apex).length) = (labs m).length - (labs apex).length by omega]
      exact h3
/-- the names on the way up are such, and the apex is the last of them -/
theorem ups_in {apex : ByteArray} (na : isN apex = true) : ∀ f m, InA apex m → m.size ≤ f → (∀ x ∈ upsL apex.size f m, InA apex x) ∧ foldB apex ∈ upsL apex.size f m
  | 0, m, h, hf => by have := isN_pos h.nm; omega
  | f + 1, m, h, hf => by
    rcases h.cases na with ⟨_, hm⟩ | ⟨_, hl⟩
    · have hs : ¬ apex.size < m.size := by rw [hm, foldB_yes na, lowB_size]; omega
      rw [ups_stop hs]
      exact ⟨fun x hx => by rw [List.mem_singleton] at hx; rw [hx]; exact h, by rw [hm]; exact List.mem_singleton.2 rfl⟩
    · have h1 : 1 < m.size := by have := isN_pos na; omega
      have hu := h.up na hl
      obtain ⟨i1, i2⟩ := ups_in na f (abvB m) hu (by have := (abv_name h.nm h1).2.2.1; omega)
      rw [upsL, if_pos hl]
      refine ⟨fun x hx => ?_, List.mem_cons_of_mem _ i2⟩
      rcases List.mem_cons.1 hx with rfl | hx
      · exact h
      · exact i1 x hx
theorem inA_fold {apex q : ByteArray} (na : isN apex = true) (hq : withinB q apex = true) : InA apex (foldB q) := by
  have hn : isN q = true := ((withinB_iff q apex).1 hq).1
  refine ⟨(zisN_fold hn).1, foldB_twice hn, ?_⟩
  rw [withinB_pre (zisN_fold hn).1 na, labs_fold hn]
  exact (withinB_pre hn na).1 hq
/-- the apex is there -/
theorem th_apex {apex : ByteArray} {T : List Rn} (na : isN apex = true) {r : Rn} (hr : r ∈ T) (hc : countB r = true) (hw : withinB r.o apex = true) : thB apex T (foldB apex) = true := by
  unfold thB namK
  rw [List.take_length, List.any_eq_true]
  refine ⟨foldB apex, List.mem_flatMap.2 ⟨r, hr, ?_⟩, by simp⟩
  rw [if_pos hc]
  unfold pathL
  rw [List.mem_reverse]
  exact (ups_in na _ _ (inA_fold na hw) (Nat.le_refl _)).2
theorem Zon.apexThere {n : Nat} {W : World} {apex : ByteArray} {L : List Rn} {ord : List Nat} {Z RW NM C m cnt : Nat} {p : Option Addr} {cp : Nat} {f : ByteArray → Option Nat} (h : Zon n W apex L ord Z RW NM C m cnt p cp f) : thB apex (ord.map (rAt L)) (foldB apex) = true := by
  have h6 : (if hasB L apex 6 = true then (-2 : Int) else -1) = -2 := h.rule (i := 2) (by show 2 < 8; omega)
  have hh : hasB L apex 6 = true := by
    cases hb : hasB L apex 6 with
    | true => rfl
    | false => rw [hb] at h6; simp at h6
  unfold hasB at hh
  rw [List.any_eq_true] at hh
  obtain ⟨r, hr, hr2⟩ := hh
  rw [Bool.and_eq_true] at hr2
  exact th_apex h.laid.na (h.laid.perm.mem_iff.2 hr) (by have := of_decide_eq_true hr2.1; simp [countB, this]) (h.laid.wi r hr)
/-- the longest name above one that is there -/
def encB (apex : ByteArray) (T : List Rn) (n : ByteArray) : ByteArray := ((upsL apex.size n.size n).find? (thB apex T)).getD n
/-- what is said -/
structure Fd where
  k : Int
  o : ByteArray
  e : ByteArray
  w : Bool
  r : List Rn
/-- a record with another owner -/
def ownR (q : ByteArray) (r : Rn) : Rn := ⟨q, r.t, r.c, r.l, r.d⟩
def absB (apex : ByteArray) (T : List Rn) (q : ByteArray) (t : Int) : Fd :=
  if thB apex T (starB (encB apex T (foldB q))) = true then ⟨(sayB T (starB (encB apex T (foldB q))) t).1, starB (letB q (encB apex T (foldB q))), letB q (encB apex T (foldB q)), true, (sayB T (starB (encB apex T (foldB q))) t).2.map (ownR q)⟩
  else ⟨6, q, letB q (encB apex T (foldB q)), false, []⟩
/-- what Find gives -/
def FdE (F : Fd) (W : World) (r : Ending) (w' : World) : Prop := (∃ v, r = .returned (.agg #[.int .i64 F.k, .string F.o, .string F.e, .bool F.w, v]) ∧ w'.ownsRow W.heap.size 54 5 v F.r.length (rce5 F.r)) ∧ Below W.heap.size W w'
/-- where the owners are written -/
theorem set_front {X : List Rn} {q : ByteArray} {k : Nat} (hk : k < X.length) : ((X.take k).map (ownR q) ++ X.drop k).set k (ownR q X[k]) = (X.take (k + 1)).map (ownR q) ++ X.drop (k + 1) := by
  have hl : ((X.take k).map (ownR q)).length = k := by rw [List.length_map, List.length_take]; omega
  rw [List.set_append_right _ _ (by omega), hl, Nat.sub_self, List.take_succ_eq_append_getElem hk, List.map_append, List.append_assoc]
  congr 1
  rw [← List.getElem_cons_drop (h := hk)]
  rfl
end Go.Proofs.YthabenjghhmicaaGreat

/-
  Proofs: (*zone.Zone).findAbsent. (The verifier's own text.)
-/
namespace Go.Proofs.YthabenjghhmicaaGreat
set_option linter.unusedVariables false
set_option linter.unusedSimpArgs false
open Go.RowKit Go.Shelf Go.Maps Go.Proofs.YthabenjghhmicaaGreat.Nm Go.Proofs.YthabenjghhmicaaGreat.Zs

theorem own_owner {w : World} {b g c n : Nat} {F : List Rn} (ho : w.ownsRow b 54 5 (.slice (some ⟨g, 0, none⟩) n c) n (rce5 F)) (hF : F.length = n) {j : Nat} (hj : j < F.length) (o : ByteArray) :
    (w.setCell ⟨g, j * 5, none⟩ (.string o)).ownsRow b 54 5 (.slice (some ⟨g, 0, none⟩) n c) n (rce5 (F.set j (ownR o F[j]))) ∧ w.cell? ⟨g, j * 5, none⟩ = some (.string F[j].o) ∧ w.frozen? ⟨g, j * 5, none⟩ = false := by
  have h' := ho
  obtain ⟨rest, hr, _⟩ := rb_ownM ho
  obtain ⟨hl, (⟨h1, h0⟩ | ⟨g', cap', cur, h1, hbg, hg, hn, hcm, hcs, htk⟩)⟩ := h'
  · cases h1
  · injection h1 with h1 h2 h3
    injection h1 with h1
    injection h1 with h1
    subst h1 h3
    have hsize : (rce5 F ++ rest).length = c * 5 := by
      have h9 : w.heap[g]? = some (.cells (rce5 F ++ rest).toArray 54 (0, 0)) := hr
      rw [hg] at h9
      injection h9 with h9
      injection h9 with h9
      rw [h9] at hcs
      simpa using hcs
    have h2 : Rb (w.setCell ⟨g, j * 5, none⟩ (.string o)) g (F.set j (ownR o F[j])) rest := hr.ownerZ hj o
    have hl2 : (F.set j (ownR o F[j])).length = n := by rw [List.length_set]; exact hF
    have hof := own_front (K := F.set j (ownR o F[j])) (cap := c) (b := b) h2 hbg (List.take_of_length_le (Nat.le_refl _)) (by rw [List.length_set]; omega) hcm (by rw [List.length_append, rce5_len, List.length_set]; rw [List.length_append, rce5_len] at hsize; exact hsize)
    rw [hl2] at hof
    exact ⟨hof, (hr.cells hj).1, Bx.free hr _⟩
theorem own_someZ {w : World} {b n : Nat} {v : Value} {xs : List Value} (h : w.ownsRow b 54 5 v n xs) (hn : 0 < n) : ∃ g c, v = .slice (some ⟨g, 0, none⟩) n c := by
  obtain ⟨hl, (⟨h1, h0⟩ | ⟨g, cap, cur, h1, _⟩)⟩ := h
  · omega
  · exact ⟨g, cap, h1⟩
theorem bx5_set {w : World} {R : Nat} {T : TypeId} {a0 a1 a2 a3 a4 : Value} (h : Bx w R #[a0, a1, a2, a3, a4] T) (b0 b1 b2 b3 b4 : Value) : Bx (((((w.setCell ⟨R, 0, none⟩ b0).setCell ⟨R, 1, none⟩ b1).setCell ⟨R, 2, none⟩ b2).setCell ⟨R, 3, none⟩ b3).setCell ⟨R, 4, none⟩ b4) R #[b0, b1, b2, b3, b4] T := by
  have := ((((h.set 0 b0).set 1 b1).set 2 b2).set 3 b3).set 4 b4
  simpa using this
theorem grown5 (w : World) (R : Nat) (b0 b1 b2 b3 b4 : Value) : w.grownBy (((((w.setCell ⟨R, 0, none⟩ b0).setCell ⟨R, 1, none⟩ b1).setCell ⟨R, 2, none⟩ b2).setCell ⟨R, 3, none⟩ b3).setCell ⟨R, 4, none⟩ b4) (some R) :=
  grown_trans (grown_trans (grown_trans (grown_trans (grown_set w R _ _) (grown_set _ R _ _)) (grown_set _ R _ _)) (grown_set _ R _ _)) (grown_set _ R _ _)
theorem bx5_cells {w : World} {R : Nat} {T : TypeId} {a0 a1 a2 a3 a4 : Value} (h : Bx w R #[a0, a1, a2, a3, a4] T) : w.cell? ⟨R, 0, none⟩ = some a0 ∧ w.cell? ⟨R, 1, none⟩ = some a1 ∧ w.cell? ⟨R, 2, none⟩ = some a2 ∧ w.cell? ⟨R, 3, none⟩ = some a3 ∧ w.cell? ⟨R, 4, none⟩ = some a4 ∧ w.frozen? ⟨R, 0, none⟩ = false ∧ w.frozen? ⟨R, 1, none⟩ = false ∧ w.frozen? ⟨R, 2, none⟩ = false ∧ w.frozen? ⟨R, 3, none⟩ = false ∧ w.frozen? ⟨R, 4, none⟩ = false :=
  ⟨h.cell rfl, h.cell rfl, h.cell rfl, h.cell rfl, h.cell rfl, h.free _, h.free _, h.free _, h.free _, h.free _⟩
theorem star_le {m : ByteArray} (h : m.size ≤ 255) : (starB m).size ≤ 255 := by
  unfold starB
  split
  · rename_i hc
    rw [ByteArray.size_append]
    have : (⟨#[1, 42]⟩ : ByteArray).size = 2 := rfl
    omega
  · exact Nat.zero_le _
theorem enc_is {apex : ByteArray} {T : List Rn} {n m : ByteArray} {pre : List ByteArray} {f : Nat} (he : upsL apex.size n.size n = pre ++ upsL apex.size f m) (hp : ∀ x ∈ pre, thB apex T x = false) (hm : thB apex T m = true) : encB apex T n = m := by
  obtain ⟨l, hl⟩ := ups_cons apex.size f m
  unfold encB
  rw [he, hl]
  have : (pre ++ m :: l).find? (thB apex T) = some m := by
    rw [List.find?_append]
    have h1 : pre.find? (thB apex T) = none := by
      rw [List.find?_eq_none]
      intro x hx
      rw [hp x hx]; simp
    rw [h1, List.find?_cons_of_pos hm]
    rfl
  rw [this]
  rfl
theorem st_len (T : List Rn) (o : ByteArray) (t : Int) : (stT T o t).length ≤ T.length := List.length_filter_le _ _
theorem say_len (T : List Rn) (o : ByteArray) (t : Int) : (sayB T o t).2.length ≤ T.length := by
  have h1 := st_len T o 0
  have h2 := st_len T o 5
  have h3 := st_len T o t
  have h4 := List.length_filter_le countB (stT T o 0)
  unfold sayB
  (repeat' split) <;> simp <;> omega
/-- where the way up stands -/
structure Upw (apex : ByteArray) (T : List Rn) (n m : ByteArray) (pre : List ByteArray) (f : Nat) : Prop where
  ia : InA apex m
  sz : m.size ≤ f
  le : m.size ≤ n.size
  eq : upsL apex.size n.size n = pre ++ upsL apex.size f m
  no : ∀ x ∈ pre, thB apex T x = false
section
variable {n : Nat} {W : World} {apex : ByteArray} {L : List Rn} {ord : List Nat} {Z RW NM C m cnt : Nat} {p : Option Addr} {cp : Nat} {f : ByteArray → Option Nat}
set_option maxRecDepth 100000 in
set_option maxHeartbeats 8000000 in
/-- (*zone.Zone).findAbsent -/
theorem findAbsent_any (h : Zon n W apex L ord Z RW NM C m cnt p cp f) (q : ByteArray) (t : Int) (hq : withinB q apex = true) (ht1 : 1 ≤ t) (ht2 : t ≤ 65535) :
    Calls Tryz.prog 51 #[.pointer (some ⟨Z, 0, none⟩), .string q, .int .i64 t] W (FdE (absB apex (ord.map (rAt L)) q t) W) := by
  have na := h.laid.na
  have hqN : isN q = true := ((withinB_iff q apex).1 hq).1
  have hq255 : q.size ≤ 255 := ((isN_iff q).1 hqN).1
  have hfs : (foldB q).size = q.size := by rw [foldB_yes hqN, lowB_size]
  have HAp := hide' h.apexThere
  have HTl : Hid ((ord.map (rAt L)).length ≤ 2000) := by unfold Hid; rw [h.laid.tlen]; exact h.few
  have HNa := hide' na
  obtain ⟨T, hTT⟩ : ∃ T, ord.map (rAt L) = T := ⟨_, rfl⟩
  have HTh : Hid (∀ V x, x.size ≤ 255 → Below W.heap.size W V → Calls Tryz.prog 49 #[.pointer (some ⟨Z, 0, none⟩), .string x] V fun r w' => r = .returned (.bool (thB apex T x)) ∧ w' = V) := fun V x hx hV => by
    have := thereZ_any (h.step hV) x hx
    rw [hTT] at this
    exact this
  have HSa : Hid (∀ V x, x.size ≤ 255 → Below W.heap.size W V → Calls Tryz.prog 50 #[.pointer (some ⟨Z, 0, none⟩), .string x, .int .i64 t] V (SayE T x t V)) := fun V x hx hV => by
    have := says_any (h.step hV) x t hx ht1 ht2
    rw [hTT] at this
    exact this
  rw [hTT] at HAp HTl ⊢
  have HFo := hide' (fun V => fold_any q V (by unfold maxLen; omega))
  have U0 : Hid (Upw apex T (foldB q) (foldB q) [] (foldB q).size) := ⟨inA_fold na hq, Nat.le_refl _, Nat.le_refl _, by simp, fun x hx => by cases hx⟩
  obtain ⟨wa, hwa⟩ : ∃ wa, W.alloc (.cells #[.int .i64 0, .string ⟨#[]⟩, .string ⟨#[]⟩, .bool false, .slice none 0 0] 34) = wa := ⟨_, rfl⟩
  have HXa : Hid (Bx wa W.heap.size #[.int .i64 0, .string ⟨#[]⟩, .string ⟨#[]⟩, .bool false, .slice none 0 0] 34) := hwa ▸ World.alloc_heap_new W _
  have HBa : Hid (Below W.heap.size W wa) := hwa ▸ (Below.refl _ W).alloc (Nat.le_refl _) _
  have HE := hide' (rfl : absB apex T q t = absB apex T q t)
  clear h hTT na hq
  go_enter Tryz.func51, Tryz.ntmps51
  go_wp2_with (go_at_call 44; refine (HFo.out _).mono ?_; rintro e w1 ⟨rfl, hB1⟩; have HB1 := hide' hB1; clear hB1)
  have HBw := hide' (bstep HBa.out HB1.out HBa.out.size)
  have HX1 := hide' (HXa.out.below HB1.out HXa.out.lt)
  go_loopw [7] (fun nv wr => ∃ (x : ByteArray) (pre : List ByteArray) (f : Nat), nv = .string x ∧ Hid (Upw apex T (foldB q) x pre f) ∧ wr = w1) (fun nv _ => txLen nv)
  case atStart => exact ⟨foldB q, [], _, rfl, U0, rfl⟩
  case round =>
    obtain ⟨x, pre, fu, rfl, HU, rfl⟩ := hrel
    have hx255 : x.size ≤ 255 := ((isN_iff x).1 HU.out.ia.nm).1
    have HT := hide' (HTh.out wr x hx255 HBw.out)
    cases hth : thB apex T x with
    | false =>
      rw [hth] at HT
      have hls : apex.size < x.size := by
        rcases HU.out.ia.cases HNa.out with ⟨_, he⟩ | ⟨_, he⟩
        · rw [he, HAp.out] at hth; cases hth
        · exact he
      have h1 : 1 < x.size := by have := isN_pos HNa.out; omega
      have HA := hide' (fun V => above_any x V HU.out.ia.nm h1)
      obtain ⟨an1, an2, an3, an4⟩ := abv_name HU.out.ia.nm h1
      obtain ⟨f', hf', hu⟩ := ups_go hls HU.out.sz
      have HNX : Hid (Upw apex T (foldB q) (abvB x) (pre ++ [x]) f') := by
        have hp := HU.out
        refine ⟨hp.ia.up HNa.out hls, by have := hp.sz; omega, by have := hp.le; omega, by rw [hp.eq, hu]; simp, fun y hy => ?_⟩
        rcases List.mem_append.1 hy with hy | hy
        · exact hp.no y hy
        · rw [List.mem_singleton] at hy; rw [hy]; exact hth
      have HLt := hide' an3
      clear hth hu hf' an1 an2 an3 an4 hls h1
      go_wp2_with (first
        | (go_at_call 49; refine HT.out.mono ?_; rintro e w5 ⟨rfl, rfl⟩)
        | (go_at_call 95; refine (HA.out _).mono ?_; rintro e w6 ⟨rfl, rfl⟩))
      exact ⟨⟨abvB x, pre ++ [x], f', rfl, HNX, by first | rfl | trivial⟩, by simp [txLen]; exact HLt.out⟩
    | true =>
      rw [hth] at HT
      have HEn := hide' (enc_is HU.out.eq HU.out.no hth)
      have hxq : x.size ≤ q.size := by have := HU.out.le; omega
      have HLe := hide' (fun V => letters_any q x V hxq hq255)
      have hlz : (letB q x).size ≤ 255 := by unfold letB; rw [size_extract' _ _ _ (Nat.le_refl _)]; omega
      have HSx := hide' (fun V => star_any x V (by unfold maxLen; omega))
      have HSl := hide' (fun V => star_any (letB q x) V (by unfold maxLen; omega))
      have hsl := star_le hx255
      clear hth
      have HAb : Hid (absB apex T q t = if thB apex T (starB x) = true then ⟨(sayB T (starB x) t).1, starB (letB q x), letB q x, true, (sayB T (starB x) t).2.map (ownR q)⟩ else ⟨6, q, letB q x, false, []⟩) := by
        unfold Hid absB
        rw [HEn.out]
      have HT2 := hide' (fun V hV => HTh.out V (starB x) hsl hV)
      have HS2 := hide' (fun V hV => HSa.out V (starB x) hsl hV)
      obtain ⟨lq, hlq⟩ : ∃ lq, letB q x = lq := ⟨_, rfl⟩
      obtain ⟨sx, hsx⟩ : ∃ sx, starB x = sx := ⟨_, rfl⟩
      rw [hlq] at HLe HSl HAb
      rw [hsx] at HSx HT2 HS2 HAb
      obtain ⟨sl, hsl2⟩ : ∃ sl, starB lq = sl := ⟨_, rfl⟩
      rw [hsl2] at HSl HAb
      clear hlq hsx hsl2 hlz hsl HEn HU
      have hB := Below.refl wr.heap.size wr
      cases ht : thB apex T sx with
      | false =>
        rw [ht] at HAb
        simp only [Bool.false_eq_true, if_false] at HAb
        have HT3 : Hid (∀ V, Below W.heap.size W V → _) := fun V hV => HT2.out V hV
        rw [ht] at HT2
        clear HT3 ht
        have HR : Hid (∀ V, Below wr.heap.size wr V → Bx V W.heap.size #[.int .i64 0, .string ⟨#[]⟩, .string ⟨#[]⟩, .bool false, .slice none 0 0] 34) := fun V hV => HX1.out.below hV HX1.out.lt
        go_wp2_with (first
          | (go_at_call 49; (with_reducible refine HT.out.mono ?_); rintro e w5 ⟨rfl, rfl⟩)
          | (go_at_call 46; refine (HLe.out _).mono ?_; rintro e w6 ⟨rfl, rfl⟩)
          | (go_at_call 29; refine (HSx.out _).mono ?_; rintro e w7 ⟨rfl, hB5⟩; have hB := bstep hB hB5 hB.size; clear hB5)
          | (go_at_call 49; (with_reducible refine (HT2.out _ (bstep HBw.out hB HBw.out.size)).mono ?_); rintro e w8 ⟨rfl, rfl⟩; obtain ⟨c0, c1, c2, c3, c4, f0, f1, f2, f3, f4⟩ := bx5_cells (HR.out _ hB)))
        have hb5 := bx5_set (HR.out _ hB) (.int .i64 6) (.string q) (.string lq) (.bool false) (.slice none 0 0)
        have hbw := bstep HBw.out hB HBw.out.size
        have hbf := hbw.grown (grown5 w8 W.heap.size (.int .i64 6) (.string q) (.string lq) (.bool false) (.slice none 0 0)) hbw.size (fun k e => by cases e; exact Nat.le_refl _)
        generalize (((((w8.setCell ⟨W.heap.size, 0, none⟩ (.int .i64 6)).setCell ⟨W.heap.size, 1, none⟩ (.string q)).setCell ⟨W.heap.size, 2, none⟩ (.string lq)).setCell ⟨W.heap.size, 3, none⟩ (.bool false)).setCell ⟨W.heap.size, 4, none⟩ (.slice none 0 0)) = wz at hb5 hbf ⊢
        obtain ⟨r0, r1, r2, r3, r4, _⟩ := bx5_cells hb5
        refine bodyPost_ret (v := .agg #[.int .i64 6, .string q, .string lq, .bool false, .slice none 0 0]) (by simp [results, go_sem, r0, r1, r2, r3, r4]) rfl ?_
        rw [HAb.out]
        exact ⟨⟨_, rfl, World.ownsRow_nil _ _ _ _⟩, hbf⟩
      | true =>
        rw [ht] at HAb
        simp only [if_true] at HAb
        rw [ht] at HT2
        clear ht
        obtain ⟨kk, X, hsy⟩ : ∃ kk X, sayB T sx t = (kk, X) := ⟨_, _, rfl⟩
        have hXl : X.length ≤ 2000 := by
          have := say_len T sx t
          rw [hsy] at this
          exact Nat.le_trans this HTl.out
        rw [hsy] at HAb
        simp only at HAb
        have HS3 : Hid (∀ V, Below W.heap.size W V → Calls Tryz.prog 50 #[.pointer (some ⟨Z, 0, none⟩), .string sx, .int .i64 t] V fun r w' => (∃ v, r = .returned (.tuple #[.int .i64 kk, v]) ∧ w'.ownsRow V.heap.size 54 5 v X.length (rce5 X)) ∧ Below V.heap.size V w') := fun V hV => by
          have := HS2.out V hV
          unfold SayE at this
          rw [hsy] at this
          exact this
        clear hsy HS2
        have HR : Hid (∀ V, Below wr.heap.size wr V → Bx V W.heap.size #[.int .i64 0, .string ⟨#[]⟩, .string ⟨#[]⟩, .bool false, .slice none 0 0] 34) := fun V hV => HX1.out.below hV HX1.out.lt
        go_wp2_with (first
          | (go_at_call 49; (with_reducible refine HT.out.mono ?_); rintro e w5 ⟨rfl, rfl⟩)
          | (go_at_call 46; refine (HLe.out _).mono ?_; rintro e w6 ⟨rfl, rfl⟩)
          | (go_at_call 29; refine (HSx.out _).mono ?_; rintro e w7 ⟨rfl, hB5⟩; have hB := bstep hB hB5 hB.size; clear hB5)
          | (go_at_call 49; (with_reducible refine (HT2.out _ (bstep HBw.out hB HBw.out.size)).mono ?_); rintro e w8 ⟨rfl, rfl⟩)
          | (go_at_call 50; refine (HS3.out _ (bstep HBw.out hB HBw.out.size)).mono ?_; rintro e w9 ⟨⟨v9, rfl, ho9⟩, hB9⟩; obtain ⟨p9, c9, rfl, _, _, _⟩ := own_shape ho9; have HO9 := hide' ho9; have HB8 := hide' hB; have HB9 := hide' (bstep hB hB9 hB.size); clear ho9 hB9 hB))
        go_loopw [42] (fun kv wv => ∃ k : Nat, kv = .int .i64 (k : Int) ∧ k ≤ X.length ∧ Hid (wv.ownsRow w8.heap.size 54 5 (.slice p9 X.length c9) X.length (rce5 ((X.take k).map (ownR q) ++ X.drop k))) ∧ Hid (w9.grownBy wv (Value.slice p9 X.length c9).ownBlock)) (fun kv _ => X.length - (intOf kv).toNat)
        case atStart => exact ⟨0, rfl, Nat.zero_le _, by unfold Hid; simpa using HO9.out, grown_refl _ _⟩
        case round =>
          obtain ⟨k, rfl, hk, HO, HG⟩ := hrel
          by_cases hlt : k < X.length
          · obtain ⟨g, c, hv⟩ := own_someZ HO.out (by omega)
            injection hv with hv1 hv2 hv3
            subst hv1 hv3
            have hFl : ((X.take k).map (ownR q) ++ X.drop k).length = X.length := by rw [List.length_append, List.length_map, List.length_take, List.length_drop]; omega
            have hFk : ((X.take k).map (ownR q) ++ X.drop k)[k]'(by omega) = X[k] := by
              rw [List.getElem_append_right (by rw [List.length_map, List.length_take]; omega), List.getElem_drop]
              congr 1
              rw [List.length_map, List.length_take]; omega
            obtain ⟨on1, on2, on3⟩ := own_owner HO.out hFl (j := k) (by omega) q
            rw [hFk, set_front hlt] at on1
            rw [hFk] at on2
            have HO1 := hide' on1
            have HG1 : Hid (w9.grownBy (wr.setCell ⟨g, k * 5, none⟩ (.string q)) (Value.slice (some ⟨g, 0, none⟩) X.length c9).ownBlock) := grown_trans HG.out (grown_set _ g _ _)
            have pk : (k : Int) < (X.length : Int) := by omega
            have pk0 : (0 : Int) ≤ (k : Int) := by omega
            clear on1 hFl hFk
            go_wp2_with fail
            exact ⟨⟨k + 1, by go_num, by omega, HO1, HG1⟩, by simp [intOf]; omega⟩
          · obtain rfl : k = X.length := by omega
            have hoX := HO.out
            rw [List.take_length, List.drop_length, List.append_nil] at hoX
            have HOX := hide' hoX
            have hbz : Below W.heap.size W w9 := bstep HBw.out HB9.out HBw.out.size
            have h8 : W.heap.size < w8.heap.size := by
              have h81 := HB8.out.size
              have h82 := HX1.out.lt
              omega
            have hbv : Below W.heap.size W wr := hbz.grown HG.out hbz.size (fun j e => by have := own_ge HO9.out e; omega)
            have HBv := hide' hbv
            have hrx : Bx wr W.heap.size #[.int .i64 0, .string ⟨#[]⟩, .string ⟨#[]⟩, .bool false, .slice none 0 0] 34 := (HR.out _ HB9.out).grown HG.out (fun e => by have := own_ge HO9.out e; omega)
            have HRX := hide' hrx
            have H8 := hide' h8
            clear hoX hbz h8 hbv hrx
            go_wp2_with (go_at_call 29; refine (HSl.out _).mono ?_; rintro e wA ⟨rfl, hBA⟩; have HBA := hide' hBA; obtain ⟨c0, c1, c2, c3, c4, f0, f1, f2, f3, f4⟩ := bx5_cells (HRX.out.below hBA HRX.out.lt); clear hBA)
            have hb5 := bx5_set (HRX.out.below HBA.out HRX.out.lt) (.int .i64 kk) (.string sl) (.string lq) (.bool true) (.slice p9 X.length c9)
            have hg5 := grown5 wA W.heap.size (.int .i64 kk) (.string sl) (.string lq) (.bool true) (.slice p9 X.length c9)
            have hbw := bstep HBv.out HBA.out HBv.out.size
            have hbf := hbw.grown hg5 hbw.size (fun k e => by cases e; exact Nat.le_refl _)
            have hof := (own_below HOX.out HBA.out).kept hg5 (Or.inr fun e => by have := own_ge HOX.out e; have := H8.out; omega)
            generalize (((((wA.setCell ⟨W.heap.size, 0, none⟩ (.int .i64 kk)).setCell ⟨W.heap.size, 1, none⟩ (.string sl)).setCell ⟨W.heap.size, 2, none⟩ (.string lq)).setCell ⟨W.heap.size, 3, none⟩ (.bool true)).setCell ⟨W.heap.size, 4, none⟩ (.slice p9 X.length c9)) = wz at hb5 hbf hof ⊢
            obtain ⟨r0, r1, r2, r3, r4, _⟩ := bx5_cells hb5
            refine bodyPost_ret (v := .agg #[.int .i64 kk, .string sl, .string lq, .bool true, .slice p9 X.length c9]) (by simp [results, go_sem, r0, r1, r2, r3, r4]) rfl ?_
            rw [HAb.out]
            refine ⟨⟨_, rfl, ?_⟩, hbf⟩
            have := own_baseZ hof (Nat.le_of_lt H8.out)
            simpa using this
end
end Go.Proofs.YthabenjghhmicaaGreat

/-
  Proofs: (*zone.Zone).Find. (The verifier's own text.)
-/
namespace Go.Proofs.YthabenjghhmicaaGreat
set_option linter.unusedVariables false
set_option linter.unusedSimpArgs false
open Go.RowKit Go.Shelf Go.Maps Go.Proofs.YthabenjghhmicaaGreat.Nm Go.Proofs.YthabenjghhmicaaGreat.Zs

def noFd : Fd := ⟨0, ⟨#[]⟩, ⟨#[]⟩, false, []⟩
/-- what a zone says of a name and a type -/
def findB (apex : ByteArray) (T : List Rn) (q : ByteArray) (t : Int) : Fd :=
  if withinB q apex = true ∧ 1 ≤ t ∧ t ≤ 65535 then
    if (lvB apex T (foldB q) t).1 ≠ 0 then ⟨(lvB apex T (foldB q) t).1, letB q (lvB apex T (foldB q) t).2, ⟨#[]⟩, false, stT T (lvB apex T (foldB q) t).2 (if (lvB apex T (foldB q) t).1 = 3 then 39 else 2)⟩
    else if thB apex T (foldB q) = true then ⟨(sayB T (foldB q) t).1, q, q, false, (sayB T (foldB q) t).2⟩
    else absB apex T q t
  else noFd
theorem ups_le (a : Nat) (ha : 0 < a) : ∀ f n, isN n = true → ∀ x ∈ upsL a f n, x.size ≤ n.size
  | 0, n, h, x, hx => by simp [upsL] at hx; rw [hx]; exact Nat.le_refl _
  | f + 1, n, h, x, hx => by
    unfold upsL at hx
    split at hx
    · rename_i hl
      have hn := abv_name h (by omega)
      rcases List.mem_cons.1 hx with rfl | hx
      · exact Nat.le_refl _
      · have := ups_le a ha f _ hn.1 x hx
        omega
    · simp at hx; rw [hx]; exact Nat.le_refl _
theorem lv_size {apex : ByteArray} {T : List Rn} {n : ByteArray} {t : Int} (na : isN apex = true) (hn : isN n = true) (h : (lvB apex T n t).1 ≠ 0) : (lvB apex T n t).2.size ≤ n.size ∧ isN (lvB apex T n t).2 = true := by
  unfold lvB at h ⊢
  cases hf : ((pathL apex n).drop 1).find? (fun on => decide (lvK T n t on ≠ 0)) with
  | none => rw [hf] at h; exact absurd rfl h
  | some x =>
    have hm : x ∈ upsL apex.size n.size n := by
      have := List.mem_of_mem_drop (List.mem_of_find?_eq_some hf)
      unfold pathL at this
      simpa using this
    exact ⟨ups_le _ (isN_pos na) _ n hn x hm, ups_names (isN_pos na) _ n hn x hm⟩
section
variable {n : Nat} {W : World} {apex : ByteArray} {L : List Rn} {ord : List Nat} {Z RW NM C m cnt : Nat} {p : Option Addr} {cp : Nat} {f : ByteArray → Option Nat}
/-- the end of Find: what is written is what is told -/
theorem fd_own {W V wz : World} {F : Fd} {v : Value} {b : Nat} (hb : W.heap.size < b) (ho : V.ownsRow b 54 5 v F.r.length (rce5 F.r)) (hg : V.grownBy wz (some W.heap.size)) : wz.ownsRow W.heap.size 54 5 v F.r.length (rce5 F.r) :=
  own_baseZ (ho.kept hg (Or.inr fun e => by have := own_ge ho e; omega)) (Nat.le_of_lt hb)
set_option maxRecDepth 100000 in
set_option maxHeartbeats 8000000 in
/-- (*zone.Zone).Find -/
theorem find_any (h : Zon n W apex L ord Z RW NM C m cnt p cp f) (q : ByteArray) (t : Int) (hq : q.size ≤ 1048576) :
    Calls Tryz.prog 12 #[.pointer (some ⟨Z, 0, none⟩), .string q, .int .i64 t] W (FdE (findB apex (ord.map (rAt L)) q t) W) := by
  have na := h.laid.na
  have ha255 : apex.size ≤ 255 := ((isN_iff apex).1 na).1
  have HW := hide' (fun V => within_any q apex V (by unfold maxLen; omega) (by unfold maxLen; omega))
  obtain ⟨wa, hwa⟩ : ∃ wa, W.alloc (.cells #[.int .i64 0, .string ⟨#[]⟩, .string ⟨#[]⟩, .bool false, .slice none 0 0] 34) = wa := ⟨_, rfl⟩
  have HXa : Hid (Bx wa W.heap.size #[.int .i64 0, .string ⟨#[]⟩, .string ⟨#[]⟩, .bool false, .slice none 0 0] 34) := hwa ▸ World.alloc_heap_new W _
  have HBa : Hid (Below W.heap.size W wa) := hwa ▸ (Below.refl _ W).alloc (Nat.le_refl _) _
  have HR : Hid (∀ V, Below wa.heap.size wa V → Bx V W.heap.size #[.int .i64 0, .string ⟨#[]⟩, .string ⟨#[]⟩, .bool false, .slice none 0 0] 34 ∧ Below W.heap.size W V ∧ W.heap.size < V.heap.size) := fun V hV => ⟨HXa.out.below hV HXa.out.lt, bstep HBa.out hV HBa.out.size, Nat.lt_of_lt_of_le HXa.out.lt hV.size⟩
  have zaa : wa.cell? ⟨Z, 0, none⟩ = some (.string apex) := (h.zx.below HBa.out h.zx.lt).cell rfl
  have hB := Below.refl wa.heap.size wa
  by_cases hin : withinB q apex = true ∧ 1 ≤ t ∧ t ≤ 65535
  · obtain ⟨hwi, ht1, ht2⟩ := hin
    have hqN : isN q = true := ((withinB_iff q apex).1 hwi).1
    have hq255 : q.size ≤ 255 := ((isN_iff q).1 hqN).1
    have hfs : (foldB q).size = q.size := by rw [foldB_yes hqN, lowB_size]
    have hfN := (zisN_fold hqN).1
    have HFo := hide' (fun V => fold_any q V (by unfold maxLen; omega))
    obtain ⟨T, hTT⟩ : ∃ T, ord.map (rAt L) = T := ⟨_, rfl⟩
    have HLv : Hid (∀ V, Below W.heap.size W V → Calls Tryz.prog 45 #[.pointer (some ⟨Z, 0, none⟩), .string (foldB q), .int .i64 t] V fun r w' => r = .returned (.tuple #[.int .i64 (lvB apex T (foldB q) t).1, .string (lvB apex T (foldB q) t).2]) ∧ Below V.heap.size V w') := fun V hV => by
      have := leaves_any (h.step hV) (foldB q) t hfN
      rw [hTT] at this
      exact this
    have HTh : Hid (∀ V, Below W.heap.size W V → Calls Tryz.prog 49 #[.pointer (some ⟨Z, 0, none⟩), .string (foldB q)] V fun r w' => r = .returned (.bool (thB apex T (foldB q))) ∧ w' = V) := fun V hV => by
      have := thereZ_any (h.step hV) (foldB q) (by omega)
      rw [hTT] at this
      exact this
    have HSa : Hid (∀ V, Below W.heap.size W V → Calls Tryz.prog 50 #[.pointer (some ⟨Z, 0, none⟩), .string (foldB q), .int .i64 t] V (SayE T (foldB q) t V)) := fun V hV => by
      have := says_any (h.step hV) (foldB q) t (by omega) ht1 ht2
      rw [hTT] at this
      exact this
    have HAb : Hid (∀ V, Below W.heap.size W V → Calls Tryz.prog 51 #[.pointer (some ⟨Z, 0, none⟩), .string q, .int .i64 t] V (FdE (absB apex T q t) V)) := fun V hV => by
      have := findAbsent_any (h.step hV) q t hwi ht1 ht2
      rw [hTT] at this
      exact this
    have HAt : Hid (∀ V x t', x.size ≤ 255 → 0 ≤ t' → t' ≤ 65535 → Below W.heap.size W V → Calls Tryz.prog 47 #[.pointer (some ⟨Z, 0, none⟩), .string x, .int .i64 t'] V fun r w' => (∃ v, r = .returned v ∧ w'.ownsRow V.heap.size 54 5 v (stT T x t').length (rce5 (stT T x t'))) ∧ Below V.heap.size V w') := fun V x t' hx h1 h2 hV => by
      have := atZ_any (h.step hV) x t' (plG_any hx ⟨h1, h2⟩)
      rw [hTT] at this
      exact this
    rw [hTT]
    have HFd : Hid (findB apex T q t = if (lvB apex T (foldB q) t).1 ≠ 0 then ⟨(lvB apex T (foldB q) t).1, letB q (lvB apex T (foldB q) t).2, ⟨#[]⟩, false, stT T (lvB apex T (foldB q) t).2 (if (lvB apex T (foldB q) t).1 = 3 then 39 else 2)⟩ else if thB apex T (foldB q) = true then ⟨(sayB T (foldB q) t).1, q, q, false, (sayB T (foldB q) t).2⟩ else absB apex T q t) := by
      unfold Hid findB
      rw [if_pos ⟨hwi, ht1, ht2⟩]
    have hls : (lvB apex T (foldB q) t).1 ≠ 0 → (lvB apex T (foldB q) t).2.size ≤ q.size := fun hne => by have := (lv_size na hfN hne).1; omega
    rw [hwi] at HW
    clear hTT h na hwi hqN hfN
    have i1 : ¬ t < 1 := by omega
    have i2 : ¬ 65535 < t := by omega
    obtain ⟨lk, lo, hlv⟩ : ∃ lk lo, lvB apex T (foldB q) t = (lk, lo) := ⟨_, _, rfl⟩
    rw [hlv] at HLv HFd hls
    simp only at HLv HFd hls
    obtain ⟨F0, hF0⟩ : ∃ F0, foldB q = F0 := ⟨_, rfl⟩
    rw [hF0] at HFo HLv HTh HSa HFd
    clear hlv hF0 hfs
    by_cases hk : lk = 0
    · subst hk
      rw [if_neg (by simp)] at HFd
      cases hth : thB apex T F0 with
      | true =>
        rw [hth] at HTh HFd
        simp only [if_true] at HFd
        obtain ⟨kk, X, hsy⟩ : ∃ kk X, sayB T F0 t = (kk, X) := ⟨_, _, rfl⟩
        have HS3 : Hid (∀ V, Below W.heap.size W V → Calls Tryz.prog 50 #[.pointer (some ⟨Z, 0, none⟩), .string F0, .int .i64 t] V fun r w' => (∃ v, r = .returned (.tuple #[.int .i64 kk, v]) ∧ w'.ownsRow V.heap.size 54 5 v X.length (rce5 X)) ∧ Below V.heap.size V w') := fun V hV => by
          have := HSa.out V hV
          unfold SayE at this
          rw [hsy] at this
          exact this
        rw [hsy] at HFd
        simp only at HFd
        clear hth hsy HSa hls
        go_enter Tryz.func12, Tryz.ntmps12
        go_wp2_with (first
          | (go_at_call 28; refine (HW.out _).mono ?_; rintro e w1 ⟨rfl, hB1⟩; have hB := bstep hB hB1 hB.size; clear hB1)
          | (go_at_call 44; refine (HFo.out _).mono ?_; rintro e w2 ⟨rfl, hB1⟩; have hB := bstep hB hB1 hB.size; clear hB1)
          | (go_at_call 45; refine (HLv.out _ (HR.out _ hB).2.1).mono ?_; rintro e w3 ⟨rfl, hB1⟩; have hB := bstep hB hB1 hB.size; clear hB1)
          | (go_at_call 49; refine (HTh.out _ (HR.out _ hB).2.1).mono ?_; rintro e w4 ⟨rfl, rfl⟩)
          | (go_at_call 50; refine (HS3.out _ (HR.out _ hB).2.1).mono ?_; rintro e w5 ⟨⟨v5, rfl, ho5⟩, hB1⟩; obtain ⟨p5, c5, rfl, _, _, _⟩ := own_shape ho5; have HO5 := hide' ho5; have HLT := hide' (HR.out _ hB).2.2; have hB := bstep hB hB1 hB.size; obtain ⟨c0, c1, c2, c3, c4, f0, f1, f2, f3, f4⟩ := bx5_cells (HR.out _ hB).1; clear hB1 ho5))
        obtain ⟨hrx, hbw, hlt⟩ := HR.out _ hB
        have hb5 := bx5_set hrx (.int .i64 kk) (.string q) (.string q) (.bool false) (.slice p5 X.length c5)
        have hg5 := grown5 w5 W.heap.size (.int .i64 kk) (.string q) (.string q) (.bool false) (.slice p5 X.length c5)
        have hbf := hbw.grown hg5 hbw.size (fun k e => by cases e; exact Nat.le_refl _)
        have hof := fd_own (F := ⟨kk, q, q, false, X⟩) HLT.out (own_below HO5.out (Below.refl _ _)) hg5
        generalize (((((w5.setCell ⟨W.heap.size, 0, none⟩ (.int .i64 kk)).setCell ⟨W.heap.size, 1, none⟩ (.string q)).setCell ⟨W.heap.size, 2, none⟩ (.string q)).setCell ⟨W.heap.size, 3, none⟩ (.bool false)).setCell ⟨W.heap.size, 4, none⟩ (.slice p5 X.length c5)) = wz at hb5 hbf hof ⊢
        obtain ⟨r0, r1, r2, r3, r4, _⟩ := bx5_cells hb5
        refine bodyPost_ret (v := .agg #[.int .i64 kk, .string q, .string q, .bool false, .slice p5 X.length c5]) (by simp [results, go_sem, r0, r1, r2, r3, r4]) rfl ?_
        rw [HFd.out]
        exact ⟨⟨_, rfl, hof⟩, hbf⟩
      | false =>
        rw [hth] at HTh HFd
        simp only [Bool.false_eq_true, if_false] at HFd
        obtain ⟨F, hF⟩ : ∃ F, absB apex T q t = F := ⟨_, rfl⟩
        rw [hF] at HAb HFd
        obtain ⟨fk, fo, fe, fw, fr⟩ := F
        clear hth hF HSa hls
        go_enter Tryz.func12, Tryz.ntmps12
        go_wp2_with (first
          | (go_at_call 28; refine (HW.out _).mono ?_; rintro e w1 ⟨rfl, hB1⟩; have hB := bstep hB hB1 hB.size; clear hB1)
          | (go_at_call 44; refine (HFo.out _).mono ?_; rintro e w2 ⟨rfl, hB1⟩; have hB := bstep hB hB1 hB.size; clear hB1)
          | (go_at_call 45; refine (HLv.out _ (HR.out _ hB).2.1).mono ?_; rintro e w3 ⟨rfl, hB1⟩; have hB := bstep hB hB1 hB.size; clear hB1)
          | (go_at_call 49; refine (HTh.out _ (HR.out _ hB).2.1).mono ?_; rintro e w4 ⟨rfl, rfl⟩)
          | (go_at_call 51; refine (HAb.out _ (HR.out _ hB).2.1).mono ?_; rintro e w5 ⟨⟨v5, rfl, ho5⟩, hB1⟩; simp only at ho5; obtain ⟨p5, c5, rfl, _, _, _⟩ := own_shape ho5; have HO5 := hide' ho5; have HLT := hide' (HR.out _ hB).2.2; have hB := bstep hB hB1 hB.size; obtain ⟨c0, c1, c2, c3, c4, f0, f1, f2, f3, f4⟩ := bx5_cells (HR.out _ hB).1; clear hB1 ho5))
        obtain ⟨hrx, hbw, hlt⟩ := HR.out _ hB
        have hb5 := bx5_set hrx (.int .i64 fk) (.string fo) (.string fe) (.bool fw) (.slice p5 fr.length c5)
        have hg5 := grown5 w5 W.heap.size (.int .i64 fk) (.string fo) (.string fe) (.bool fw) (.slice p5 fr.length c5)
        have hbf := hbw.grown hg5 hbw.size (fun k e => by cases e; exact Nat.le_refl _)
        have hof := fd_own (F := ⟨fk, fo, fe, fw, fr⟩) HLT.out (own_below HO5.out (Below.refl _ _)) hg5
        generalize (((((w5.setCell ⟨W.heap.size, 0, none⟩ (.int .i64 fk)).setCell ⟨W.heap.size, 1, none⟩ (.string fo)).setCell ⟨W.heap.size, 2, none⟩ (.string fe)).setCell ⟨W.heap.size, 3, none⟩ (.bool fw)).setCell ⟨W.heap.size, 4, none⟩ (.slice p5 fr.length c5)) = wz at hb5 hbf hof ⊢
        obtain ⟨r0, r1, r2, r3, r4, _⟩ := bx5_cells hb5
        refine bodyPost_ret (v := .agg #[.int .i64 fk, .string fo, .string fe, .bool fw, .slice p5 fr.length c5]) (by simp [results, go_sem, r0, r1, r2, r3, r4]) rfl ?_
        rw [HFd.out]
        exact ⟨⟨_, rfl, hof⟩, hbf⟩
    · rw [if_pos hk] at HFd
      have hls2 := hls hk
      have hkb : (lk != 0) = true := by simp [hk]
      have HLe := hide' (fun V => letters_any q lo V hls2 hq255)
      have HTy := hide' (fun V => typeLeft_any lk V)
      have htt : 0 ≤ (if lk = 3 then (39 : Int) else 2) ∧ (if lk = 3 then (39 : Int) else 2) ≤ 65535 := by split <;> omega
      have HA := hide' (fun V hV => HAt.out V lo _ (Nat.le_trans hls2 hq255) htt.1 htt.2 hV)
      obtain ⟨tl, htl⟩ : ∃ tl, (if lk = 3 then (39 : Int) else 2) = tl := ⟨_, rfl⟩
      rw [htl] at HTy HA HFd
      obtain ⟨lq, hlq⟩ : ∃ lq, letB q lo = lq := ⟨_, rfl⟩
      rw [hlq] at HLe HFd
      clear htl hlq htt hls2 hls hk HAt HSa HTh
      go_enter Tryz.func12, Tryz.ntmps12
      go_wp2_with (first
        | (go_at_call 28; refine (HW.out _).mono ?_; rintro e w1 ⟨rfl, hB1⟩; have hB := bstep hB hB1 hB.size; clear hB1)
        | (go_at_call 44; refine (HFo.out _).mono ?_; rintro e w2 ⟨rfl, hB1⟩; have hB := bstep hB hB1 hB.size; clear hB1)
        | (go_at_call 45; refine (HLv.out _ (HR.out _ hB).2.1).mono ?_; rintro e w3 ⟨rfl, hB1⟩; have hB := bstep hB hB1 hB.size; clear hB1)
        | (go_at_call 46; refine (HLe.out _).mono ?_; rintro e w4 ⟨rfl, rfl⟩)
        | (go_at_call 48; refine (HTy.out _).mono ?_; rintro e w6 ⟨rfl, rfl⟩)
        | (go_at_call 47; refine (HA.out _ (HR.out _ hB).2.1).mono ?_; rintro e w5 ⟨⟨v5, rfl, ho5⟩, hB1⟩; obtain ⟨p5, c5, rfl, _, _, _⟩ := own_shape ho5; have HO5 := hide' ho5; have HLT := hide' (HR.out _ hB).2.2; have hB := bstep hB hB1 hB.size; obtain ⟨c0, c1, c2, c3, c4, f0, f1, f2, f3, f4⟩ := bx5_cells (HR.out _ hB).1; clear hB1 ho5))
      obtain ⟨hrx, hbw, hlt⟩ := HR.out _ hB
      have hb5 := bx5_set hrx (.int .i64 lk) (.string lq) (.string ⟨#[]⟩) (.bool false) (.slice p5 (stT T lo tl).length c5)
      have hg5 := grown5 w5 W.heap.size (.int .i64 lk) (.string lq) (.string ⟨#[]⟩) (.bool false) (.slice p5 (stT T lo tl).length c5)
      have hbf := hbw.grown hg5 hbw.size (fun k e => by cases e; exact Nat.le_refl _)
      have hof := fd_own (F := ⟨lk, lq, ⟨#[]⟩, false, stT T lo tl⟩) HLT.out (own_below HO5.out (Below.refl _ _)) hg5
      generalize (((((w5.setCell ⟨W.heap.size, 0, none⟩ (.int .i64 lk)).setCell ⟨W.heap.size, 1, none⟩ (.string lq)).setCell ⟨W.heap.size, 2, none⟩ (.string ⟨#[]⟩)).setCell ⟨W.heap.size, 3, none⟩ (.bool false)).setCell ⟨W.heap.size, 4, none⟩ (.slice p5 (stT T lo tl).length c5)) = wz at hb5 hbf hof ⊢
      obtain ⟨r0, r1, r2, r3, r4, _⟩ := bx5_cells hb5
      refine bodyPost_ret (v := .agg #[.int .i64 lk, .string lq, .string ⟨#[]⟩, .bool false, .slice p5 (stT T lo tl).length c5]) (by simp [results, go_sem, r0, r1, r2, r3, r4]) rfl ?_
      rw [HFd.out]
      exact ⟨⟨_, rfl, hof⟩, hbf⟩
  · have HFd : Hid (findB apex (ord.map (rAt L)) q t = noFd) := by unfold Hid findB; rw [if_neg hin]
    clear h na
    cases hwi : withinB q apex with
    | false =>
      rw [hwi] at HW
      clear hin hwi
      go_enter Tryz.func12, Tryz.ntmps12
      go_wp2_with (go_at_call 28; refine (HW.out _).mono ?_; rintro e w5 ⟨rfl, hB1⟩; have hB := bstep hB hB1 hB.size; obtain ⟨c0, c1, c2, c3, c4, f0, f1, f2, f3, f4⟩ := bx5_cells (HR.out _ hB).1; clear hB1)
      obtain ⟨hrx, hbw, hlt⟩ := HR.out _ hB
      have hb5 := bx5_set hrx (.int .i64 0) (.string ⟨#[]⟩) (.string ⟨#[]⟩) (.bool false) (.slice none 0 0)
      have hg5 := grown5 w5 W.heap.size (.int .i64 0) (.string ⟨#[]⟩) (.string ⟨#[]⟩) (.bool false) (.slice none 0 0)
      have hbf := hbw.grown hg5 hbw.size (fun k e => by cases e; exact Nat.le_refl _)
      generalize (((((w5.setCell ⟨W.heap.size, 0, none⟩ (.int .i64 0)).setCell ⟨W.heap.size, 1, none⟩ (.string ⟨#[]⟩)).setCell ⟨W.heap.size, 2, none⟩ (.string ⟨#[]⟩)).setCell ⟨W.heap.size, 3, none⟩ (.bool false)).setCell ⟨W.heap.size, 4, none⟩ (.slice none 0 0)) = wz at hb5 hbf ⊢
      obtain ⟨r0, r1, r2, r3, r4, _⟩ := bx5_cells hb5
      refine bodyPost_ret (v := .agg #[.int .i64 0, .string ⟨#[]⟩, .string ⟨#[]⟩, .bool false, .slice none 0 0]) (by simp [results, go_sem, r0, r1, r2, r3, r4]) rfl ?_
      rw [HFd.out]
      exact ⟨⟨_, rfl, World.ownsRow_nil _ _ _ _⟩, hbf⟩
    | true =>
      rw [hwi] at HW
      by_cases i1 : t < 1
      · clear hin hwi
        go_enter Tryz.func12, Tryz.ntmps12
        go_wp2_with (go_at_call 28; refine (HW.out _).mono ?_; rintro e w5 ⟨rfl, hB1⟩; have hB := bstep hB hB1 hB.size; obtain ⟨c0, c1, c2, c3, c4, f0, f1, f2, f3, f4⟩ := bx5_cells (HR.out _ hB).1; clear hB1)
        obtain ⟨hrx, hbw, hlt⟩ := HR.out _ hB
        have hb5 := bx5_set hrx (.int .i64 0) (.string ⟨#[]⟩) (.string ⟨#[]⟩) (.bool false) (.slice none 0 0)
        have hg5 := grown5 w5 W.heap.size (.int .i64 0) (.string ⟨#[]⟩) (.string ⟨#[]⟩) (.bool false) (.slice none 0 0)
        have hbf := hbw.grown hg5 hbw.size (fun k e => by cases e; exact Nat.le_refl _)
        generalize (((((w5.setCell ⟨W.heap.size, 0, none⟩ (.int .i64 0)).setCell ⟨W.heap.size, 1, none⟩ (.string ⟨#[]⟩)).setCell ⟨W.heap.size, 2, none⟩ (.string ⟨#[]⟩)).setCell ⟨W.heap.size, 3, none⟩ (.bool false)).setCell ⟨W.heap.size, 4, none⟩ (.slice none 0 0)) = wz at hb5 hbf ⊢
        obtain ⟨r0, r1, r2, r3, r4, _⟩ := bx5_cells hb5
        refine bodyPost_ret (v := .agg #[.int .i64 0, .string ⟨#[]⟩, .string ⟨#[]⟩, .bool false, .slice none 0 0]) (by simp [results, go_sem, r0, r1, r2, r3, r4]) rfl ?_
        rw [HFd.out]
        exact ⟨⟨_, rfl, World.ownsRow_nil _ _ _ _⟩, hbf⟩
      · have i2 : 65535 < t := by
          rcases Classical.em (t ≤ 65535) with h9 | h9
          · exact absurd ⟨hwi, by omega, h9⟩ hin
          · omega
        clear hin hwi
        go_enter Tryz.func12, Tryz.ntmps12
        go_wp2_with (go_at_call 28; refine (HW.out _).mono ?_; rintro e w5 ⟨rfl, hB1⟩; have hB := bstep hB hB1 hB.size; obtain ⟨c0, c1, c2, c3, c4, f0, f1, f2, f3, f4⟩ := bx5_cells (HR.out _ hB).1; clear hB1)
        obtain ⟨hrx, hbw, hlt⟩ := HR.out _ hB
        have hb5 := bx5_set hrx (.int .i64 0) (.string ⟨#[]⟩) (.string ⟨#[]⟩) (.bool false) (.slice none 0 0)
        have hg5 := grown5 w5 W.heap.size (.int .i64 0) (.string ⟨#[]⟩) (.string ⟨#[]⟩) (.bool false) (.slice none 0 0)
        have hbf := hbw.grown hg5 hbw.size (fun k e => by cases e; exact Nat.le_refl _)
        generalize (((((w5.setCell ⟨W.heap.size, 0, none⟩ (.int .i64 0)).setCell ⟨W.heap.size, 1, none⟩ (.string ⟨#[]⟩)).setCell ⟨W.heap.size, 2, none⟩ (.string ⟨#[]⟩)).setCell ⟨W.heap.size, 3, none⟩ (.bool false)).setCell ⟨W.heap.size, 4, none⟩ (.slice none 0 0)) = wz at hb5 hbf ⊢
        obtain ⟨r0, r1, r2, r3, r4, _⟩ := bx5_cells hb5
        refine bodyPost_ret (v := .agg #[.int .i64 0, .string ⟨#[]⟩, .string ⟨#[]⟩, .bool false, .slice none 0 0]) (by simp [results, go_sem, r0, r1, r2, r3, r4]) rfl ?_
        rw [HFd.out]
        exact ⟨⟨_, rfl, World.ownsRow_nil _ _ _ _⟩, hbf⟩
end
end Go.Proofs.YthabenjghhmicaaGreat
