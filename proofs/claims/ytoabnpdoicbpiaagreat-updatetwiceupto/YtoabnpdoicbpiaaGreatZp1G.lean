import Derived.Test.YtoabnpdoicbpiaaGreatWkG
import Derived.Deep.AppendLies
import Derived.Test.YtoabnpdoicbpiaaGreatMf0G
import Derived.Test.YtoabnpdoicbpiaaGreatFt1G
import Derived.Deep.CutRange
import Derived.Test.YtoabnpdoicbpiaaGreatSf8G
namespace Go.Proofs.YtoabnpdoicbpiaaGreat
open Go.RowKit Go.Proofs.YtoabnpdoicbpiaaGreat.Nm
theorem ownBlk_ne {w : World} {base e s n : Nat} {v : Value} {xs : List Value} (h : w.ownsRow base e s v n xs) : v.ownBlock ≠ some w.heap.size := by
 obtain ⟨_, (⟨rfl, _⟩ | ⟨g, cap, cur, rfl, hb, hg, _⟩)⟩ := h
 ·intro h; cases h
 ·intro h2
  have hlt := (Array.getElem?_eq_some_iff.1 hg).1
  have h3 : g = w.heap.size := by simpa [Value.ownBlock] using h2
  omega
end Go.Proofs.YtoabnpdoicbpiaaGreat
namespace Go.Proofs.YtoabnpdoicbpiaaGreat
set_option linter.unusedVariables false
set_option linter.unusedSimpArgs false
open Go.RowKit Go.Shelf Go.Maps Go.Proofs.YtoabnpdoicbpiaaGreat.Nm
def likesF (S : List Se) (k : Nat) (x : Se) : Option Nat := (S.take k).findIdx? (fun s => decide (s = x))
def plOf (s : Se) : Pl := (s.1, s.2.1)
def firstF (S : List Se) (k : Nat) (p : Pl) : Option Nat := (S.take k).findIdx? (fun s => decide (plOf s = p))
theorem find_succ {α : Type} (S : List α) (q : α → Bool) {k : Nat} (hk : k < S.length) : (S.take (k + 1)).findIdx? q = ((S.take k).findIdx? q).or (if q S[k] = true then some k else none) := by
 rw [List.take_succ_eq_append_getElem hk, List.findIdx?_append]
 congr 1
 have hl : (S.take k).length = k := by rw [List.length_take]; omega
 cases hq : q S[k] <;> simp [List.findIdx?_cons, hq, hl]
theorem likes_old {S : List Se} {k : Nat} (hk : k < S.length) (h : (likesF S k S[k]).isSome = true) : ∀ x, likesF S (k + 1) x = likesF S k x := fun x => by
 unfold likesF at *
 rw [find_succ S _ hk]
 by_cases e : S[k] = x
 ·subst e
  obtain ⟨y, hy⟩ := Option.isSome_iff_exists.1 h
  rw [hy]; rfl
 ·simp [e]
theorem likes_new {S : List Se} {k : Nat} (hk : k < S.length) (h : likesF S k S[k] = none) : likesF S (k + 1) S[k] = some k ∧ ∀ x, x ≠ S[k] → likesF S (k + 1) x = likesF S k x := by
 refine ⟨?_, fun x hx => ?_⟩
 ·unfold likesF at *
  rw [find_succ S _ hk, h]; simp
 ·unfold likesF
  rw [find_succ S _ hk]
  have : ¬ S[k] = x := fun e => hx e.symm
  simp [this]
theorem first_old {S : List Se} {k : Nat} (hk : k < S.length) (h : (firstF S k (plOf S[k])).isSome = true) : ∀ x, firstF S (k + 1) x = firstF S k x := fun x => by
 unfold firstF at *
 rw [find_succ S _ hk]
 by_cases e : plOf S[k] = x
 ·subst e
  obtain ⟨y, hy⟩ := Option.isSome_iff_exists.1 h
  rw [hy]; rfl
 ·simp [e]
theorem first_new {S : List Se} {k : Nat} (hk : k < S.length) (h : firstF S k (plOf S[k]) = none) : firstF S (k + 1) (plOf S[k]) = some k ∧ ∀ x, x ≠ plOf S[k] → firstF S (k + 1) x = firstF S k x := by
 refine ⟨?_, fun x hx => ?_⟩
 ·unfold firstF at *
  rw [find_succ S _ hk, h]; simp
 ·unfold firstF
  rw [find_succ S _ hk]
  have : ¬ plOf S[k] = x := fun e => hx e.symm
  simp [this]
theorem like_first {S : List Se} {k : Nat} {x : Se} (h : (likesF S k x).isSome = true) : (firstF S k (plOf x)).isSome = true := by
 unfold likesF at h
 unfold firstF
 rw [List.findIdx?_isSome] at h ⊢
 obtain ⟨y, hy, h⟩ := List.any_eq_true.1 h
 rw [List.any_eq_true]
 refine ⟨y, hy, ?_⟩
 have := of_decide_eq_true h
 subst this
 simp
def sen (s : Se) : List Value := [.string s.1, .int .i64 s.2.1, .string s.2.2]
def sce (S : List Se) : List Value := S.flatMap sen
theorem sce_app (S T : List Se) : sce (S ++ T) = sce S ++ sce T := by simp [sce]
theorem sce_len (S : List Se) : (sce S).length = S.length * 3 := by
 induction S with
 | nil => rfl
 | cons x S ih =>
  have : sce (x :: S) = sen x ++ sce S := rfl
  rw [this, List.length_append, ih]; simp [sen]; omega
theorem sce_get (S : List Se) : ∀ j, (hj : j < S.length) → (sce S)[j * 3]? = some (.string S[j].1) ∧ (sce S)[j * 3 + 1]? = some (.int .i64 S[j].2.1) ∧ (sce S)[j * 3 + 2]? = some (.string S[j].2.2) := by
 induction S with
 | nil => intro j hj; simp at hj
 | cons x S ih =>
  intro j hj
  have hs : sce (x :: S) = sen x ++ sce S := rfl
  rw [hs]
  cases j with
  | zero => simp [sen]
  | succ j =>
   obtain ⟨h0, h1, h2⟩ := ih j (by simpa using hj)
   refine ⟨?_, ?_, ?_⟩
   ·rw [List.getElem?_append_right (by simp [sen]; omega), show (j + 1) * 3 - (sen x).length = j * 3 by simp [sen]; omega]; exact h0
   ·rw [List.getElem?_append_right (by simp [sen]; omega), show (j + 1) * 3 + 1 - (sen x).length = j * 3 + 1 by simp [sen]; omega]; exact h1
   ·rw [List.getElem?_append_right (by simp [sen]; omega), show (j + 1) * 3 + 2 - (sen x).length = j * 3 + 2 by simp [sen]; omega]; exact h2
theorem infoSe : (Tryz.prog.info? 83).map (fun i => (i.zero, i.size, i.bytes)) = some (some (.agg #[.string ⟨#[]⟩, .int .i64 0, .string ⟨#[]⟩]), 3, 40) := by kernel_rfl
theorem ss_own {w : World} {base cap n : Nat} {p : Option Addr} {S : List Se} (h : w.ownsRow base 83 3 (.slice p n cap) n (sce S)) : SsAt w p S := fun k hk => by
 obtain ⟨hl, (⟨h1, h0⟩ | ⟨g', cap', cur, h1, hb, hg, hn, hcm, hcs, htk⟩)⟩ := h
 ·injection h1 with h1 h2 h3
  subst h1
  rw [sce_len] at hl
  omega
 ·injection h1 with h1 h2 h3
  subst h1
  obtain ⟨e0, e1, e2⟩ := sce_get S k hk
  have hbx : Bx w g' cur 83 := hg
  have hx : ∀ (i : Nat) (v : Value), (sce S)[i]? = some v → cur[i]? = some v := fun i v hv => by
   have hi : i < n * 3 := by
    have h9 := (List.getElem?_eq_some_iff.1 hv).1
    rw [← htk, List.length_take] at h9
    omega
   rw [← htk] at hv
   rw [List.getElem?_take, if_pos hi] at hv
   simpa using hv
  exact ⟨g', 0, rfl, hbx.lt, by rw [Nat.zero_add]; exact hbx.cell (hx _ _ e0), by rw [Nat.zero_add]; exact hbx.cell (hx _ _ e1), by rw [Nat.zero_add]; exact hbx.cell (hx _ _ e2)⟩
structure Dr (w wr : World) (D Z LK FK RW NM B : Nat) (apex fa : ByteArray) (gv sv : Value) (S : List Se) (a b c : Nat) : Prop where
 dx : Bx wr D #[.pointer (some ⟨Z, 0, none⟩), .string fa, gv, sv, .map (some LK), .map (some FK)] 51
 zx : Bx wr Z #[.string apex, .slice none 0 0, .map (some RW), .map (some NM)] 61
 own : wr.ownsRow B 83 3 sv a (sce (S.take a))
 lk : MLk wr LK b (likesF S b)
 fi : MFi wr FK c (firstF S c)
 rw' : MRow wr RW 0 (fun _ => none)
 nm : MNm wr NM 0 (fun _ => none)
 bl : Below w.heap.size w wr
 ge : w.heap.size ≤ D ∧ w.heap.size ≤ Z ∧ w.heap.size ≤ LK ∧ w.heap.size ≤ FK ∧ w.heap.size ≤ RW ∧ w.heap.size ≤ NM
 lt : D < B ∧ Z < B ∧ LK < B ∧ FK < B ∧ RW < B ∧ NM < B
 ne : LK ≠ FK ∧ LK ≠ RW ∧ LK ≠ NM ∧ FK ≠ RW ∧ FK ≠ NM ∧ RW ≠ NM ∧ D ≠ Z
 sz : B ≤ wr.heap.size
section
variable {w wr w2 : World} {D Z LK FK RW NM B : Nat} {apex fa : ByteArray} {gv sv sv' : Value} {S : List Se} {a b c : Nat}
theorem own_ge {w : World} {base e size : Nat} {v : Value} {n : Nat} {xs : List Value} (h : w.ownsRow base e size v n xs) {g : Nat} (hg : v.ownBlock = some g) : base ≤ g := by
 obtain ⟨hl, (⟨rfl, rfl⟩ | ⟨g', cap, cur, rfl, hb, _⟩)⟩ := h
 ·cases hg
 ·cases hg; exact hb
theorem Dr.step (h : Dr w wr D Z LK FK RW NM B apex fa gv sv S a b c) (hb : Below wr.heap.size wr w2) : Dr w w2 D Z LK FK RW NM B apex fa gv sv S a b c :=
 ⟨h.dx.below hb h.dx.lt, h.zx.below hb h.zx.lt, h.own.kept (grown_below hb none) (Classical.em _), h.lk.grown (grown_below hb none) (by simp), h.fi.grown (grown_below hb none) (by simp), h.rw'.grown (grown_below hb none) (by simp), h.nm.grown (grown_below hb none) (by simp), bstep h.bl hb h.bl.size, h.ge, h.lt, h.ne, Nat.le_trans h.sz hb.size⟩
theorem Dr.app (h : Dr w wr D Z LK FK RW NM B apex fa gv sv S a b c) (hg : wr.grownBy w2 sv.ownBlock) (ho : w2.ownsRow B 83 3 sv' (a + 1) (sce (S.take (a + 1)))) : Dr w (w2.setCell ⟨D, 3, none⟩ sv') D Z LK FK RW NM B apex fa gv sv' S (a + 1) b c := by
 obtain ⟨l1, l2, l3, l4, l5, l6⟩ := h.lt
 obtain ⟨g1, g2, g3, g4, g5, g6⟩ := h.ge
 have hB : w.heap.size < B := by omega
 have far : ∀ X, X < B → sv.ownBlock ≠ some X := fun X hX e => by have := own_ge h.own e; omega
 have nd1 := h.lk.ne h.dx
 have nd2 := h.fi.ne h.dx
 have nd3 := h.rw'.ne h.dx
 have nd4 := h.nm.ne h.dx
 have hdx := h.dx.grown hg (far _ l1)
 have hs : w2.grownBy (w2.setCell ⟨D, 3, none⟩ sv') (some D) := grown_set w2 D 3 sv'
 have own' : sv'.ownBlock = none ∨ sv'.ownBlock ≠ some D := Or.inr fun e => by have := own_ge ho e; omega
 refine ⟨hdx.set 3 sv', (h.zx.grown hg (far _ l2)).grown hs (by simp; exact fun e => h.ne.2.2.2.2.2.2 e), ho.kept hs own', (h.lk.grown hg (fun e => far _ l3 e.symm)).grown hs (by simp; omega), (h.fi.grown hg (fun e => far _ l4 e.symm)).grown hs (by simp; omega), (h.rw'.grown hg (fun e => far _ l5 e.symm)).grown hs (by simp; omega), (h.nm.grown hg (fun e => far _ l6 e.symm)).grown hs (by simp; omega), ?_, h.ge, h.lt, h.ne, ?_⟩
 ·exact (h.bl.grown hg h.bl.size (fun q e => by have := own_ge h.own e; omega)).setCell g1 _
 ·rw [set_size]; exact Nat.le_trans h.sz hg.size
theorem Dr.like (h : Dr w wr D Z LK FK RW NM B apex fa gv sv S a b c) (hg : wr.grownBy w2 (some LK)) (hm : MLk w2 LK (b + 1) (likesF S (b + 1))) : Dr w w2 D Z LK FK RW NM B apex fa gv sv S a (b + 1) c := by
 obtain ⟨l1, l2, l3, l4, l5, l6⟩ := h.lt
 obtain ⟨g1, g2, g3, g4, g5, g6⟩ := h.ge
 obtain ⟨n1, n2, n3, n4, n5, n6, n7⟩ := h.ne
 have nd1 := h.lk.ne h.dx
 have nz1 := h.lk.ne h.zx
 refine ⟨h.dx.grown hg (by simp; omega), h.zx.grown hg (by simp; omega), h.own.kept hg (Or.inr fun e => by have := own_ge h.own e; omega), hm, h.fi.grown hg (by simp; omega), h.rw'.grown hg (by simp; omega), h.nm.grown hg (by simp; omega), h.bl.grown hg h.bl.size (fun q e => by cases e; exact g3), h.ge, h.lt, h.ne, Nat.le_trans h.sz hg.size⟩
theorem Dr.firs (h : Dr w wr D Z LK FK RW NM B apex fa gv sv S a b c) (hg : wr.grownBy w2 (some FK)) (hm : MFi w2 FK (c + 1) (firstF S (c + 1))) : Dr w w2 D Z LK FK RW NM B apex fa gv sv S a b (c + 1) := by
 obtain ⟨l1, l2, l3, l4, l5, l6⟩ := h.lt
 obtain ⟨g1, g2, g3, g4, g5, g6⟩ := h.ge
 obtain ⟨n1, n2, n3, n4, n5, n6, n7⟩ := h.ne
 have nd1 := h.fi.ne h.dx
 have nz1 := h.fi.ne h.zx
 refine ⟨h.dx.grown hg (by simp; omega), h.zx.grown hg (by simp; omega), h.own.kept hg (Or.inr fun e => by have := own_ge h.own e; omega), h.lk.grown hg (by simp; omega), hm, h.rw'.grown hg (by simp; omega), h.nm.grown hg (by simp; omega), h.bl.grown hg h.bl.size (fun q e => by cases e; exact g4), h.ge, h.lt, h.ne, Nat.le_trans h.sz hg.size⟩
theorem Dr.like_same (h : Dr w wr D Z LK FK RW NM B apex fa gv sv S a b c) (hb : b < S.length) (he : (likesF S b S[b]).isSome = true) : Dr w wr D Z LK FK RW NM B apex fa gv sv S a (b + 1) c :=
 { h with lk := (h.lk.mono (Nat.le_succ _)).ext fun x _ => likes_old hb he x }
theorem Dr.firs_same (h : Dr w wr D Z LK FK RW NM B apex fa gv sv S a b c) (hc : c < S.length) (he : (firstF S c (plOf S[c])).isSome = true) : Dr w wr D Z LK FK RW NM B apex fa gv sv S a b (c + 1) :=
 { h with fi := (h.fi.mono (Nat.le_succ _)).ext fun x _ => first_old hc he x }
end
end Go.Proofs.YtoabnpdoicbpiaaGreat
namespace Go.Proofs.YtoabnpdoicbpiaaGreat
set_option linter.unusedVariables false
set_option linter.unusedSimpArgs false
open Go.RowKit Go.Shelf Go.Maps Go.Proofs.YtoabnpdoicbpiaaGreat.Nm
theorem seG_of {r : Rn} (h : zonR r = true) : seG (senS r) := by
 obtain ⟨h1, h2, h3, h4, h5, h6, h7, h8, h9, h10, h11⟩ := ok_facts h
 refine ⟨?_, WalkArith.wf_i64 (by simp only [senS]; omega), ?_⟩
 ·unfold maxLen; simp only [senS]; omega
 ·unfold maxLen; simp only [senS]; omega
theorem plG_of {x : Se} (h : seG x) : plG (plOf x) := ⟨h.1, h.2.1⟩
set_option maxRecDepth 100000 in
set_option maxHeartbeats 2000000 in
theorem newDraft_any (apex : ByteArray) (L : List Rn) (p : Option Addr) (cap : Nat) (w : World) (Q : World → Value → Prop) (ha : apex.size ≤ maxLen) (hL : L.length ≤ 1048576) (hat : RsAt w p L) (hok : okL L)
  (hlay : ∀ (W : World) (D Z LK FK RW NM B : Nat) (sv : Value), Dr w W D Z LK FK RW NM B apex (foldB apex) (.slice p L.length cap) sv (L.map senS) L.length L.length L.length → Calls Tryz.prog 40 #[.pointer (some ⟨D, 0, none⟩)] W fun r w' => r = .returned (.tuple #[]) ∧ Q w' (.pointer (some ⟨D, 0, none⟩))) :
  Calls Tryz.prog 15 #[.string apex, .slice p L.length cap] w fun r w' => ∃ v, r = .returned v ∧ Q w' v := by
 have HF := hide' (fun W => fold_any apex W ha)
 obtain ⟨fa, hfa⟩ : ∃ fa, foldB apex = fa := ⟨_, rfl⟩
 rw [hfa] at HF hlay
 clear hfa
 have HL := hide' hlay
 clear hlay
 have hmm := @run_makeMap Tryz.prog
 go_enter Tryz.func15, Tryz.ntmps15
 go_wp2_with (go_at_call 37; refine (HF.out _).mono ?_; rintro r w2 ⟨rfl, hB2⟩; have HB2 := hide' hB2; clear hB2)
 obtain ⟨D, hD⟩ : ∃ D, w2.heap.size + 1 + 1 = D := ⟨_, rfl⟩
 obtain ⟨Z, hZ⟩ : ∃ Z, w.heap.size + 1 + 1 = Z := ⟨_, rfl⟩
 obtain ⟨wz, hwz⟩ : ∃ wz, (((w2.alloc (.map #[] 0)).alloc (.map #[] 0)).alloc (.cells #[.pointer (some ⟨w.heap.size + 1 + 1, 0, none⟩), .string fa, .slice p L.length cap, .slice none 0 0, .map (some w2.heap.size), .map (some (w2.heap.size + 1))] 51)) = wz := ⟨_, rfl⟩
 have H0 : Hid (Dr w wz D Z w2.heap.size (w2.heap.size + 1) w.heap.size (w.heap.size + 1) wz.heap.size apex fa (.slice p L.length cap) (.slice none 0 0) (L.map senS) 0 0 0) := by
  have s1 : (((w.alloc (.map #[] 0)).alloc (.map #[] 0)).alloc (.cells #[.string apex, .slice none 0 0, .map (some w.heap.size), .map (some (w.heap.size + 1))] 61)).heap.size = w.heap.size + 3 := by simp
  have hb2 := HB2.out
  have sz2 := hb2.size
  have hszz : wz.heap.size = w2.heap.size + 3 := by rw [← hwz]; simp
  have hb3 : Below w2.heap.size w2 wz := by rw [← hwz]; exact (((Below.refl _ w2).alloc (Nat.le_refl _) _).alloc (by simp) _).alloc (by simp; omega) _
  have m1 : MRow wz w.heap.size 0 (fun _ => none) := by
   have h1 : MRow (w.alloc (.map #[] 0)) w.heap.size 0 (fun _ => none) := Mf.made w
   exact ((((h1.grown (World.grownBy_alloc _ _ none) (by simp)).grown (World.grownBy_alloc _ _ none) (by simp)).grown (grown_below hb2 none) (by simp)).grown (grown_below hb3 none) (by simp))
  have m2 : MNm wz (w.heap.size + 1) 0 (fun _ => none) := by
   have h1 : MNm ((w.alloc (.map #[] 0)).alloc (.map #[] 0)) (w.alloc (.map #[] 0)).heap.size 0 (fun _ => none) := Mf.made _
   rw [show (w.alloc (.map #[] 0)).heap.size = w.heap.size + 1 by simp] at h1
   exact (((h1.grown (World.grownBy_alloc _ _ none) (by simp)).grown (grown_below hb2 none) (by simp)).grown (grown_below hb3 none) (by simp))
  have z1 : Bx wz Z #[.string apex, .slice none 0 0, .map (some w.heap.size), .map (some (w.heap.size + 1))] 61 := by
   have h1 := World.alloc_heap_new ((w.alloc (.map #[] 0)).alloc (.map #[] 0)) (.cells #[.string apex, .slice none 0 0, .map (some w.heap.size), .map (some (w.heap.size + 1))] 61)
   rw [show ((w.alloc (.map #[] 0)).alloc (.map #[] 0)).heap.size = Z by simp; omega] at h1
   exact Bx.below (Bx.below h1 hb2 (by rw [s1]; omega)) hb3 (by omega)
  have m3 : MLk wz w2.heap.size 0 (fun _ => none) := by
   have h1 : MLk (w2.alloc (.map #[] 0)) w2.heap.size 0 (fun _ => none) := Mf.made w2
   rw [← hwz]
   exact (h1.grown (World.grownBy_alloc _ _ none) (by simp)).grown (World.grownBy_alloc _ _ none) (by simp)
  have m4 : MFi wz (w2.heap.size + 1) 0 (fun _ => none) := by
   have h1 : MFi ((w2.alloc (.map #[] 0)).alloc (.map #[] 0)) (w2.alloc (.map #[] 0)).heap.size 0 (fun _ => none) := Mf.made _
   rw [show (w2.alloc (.map #[] 0)).heap.size = w2.heap.size + 1 by simp] at h1
   rw [← hwz]
   exact h1.grown (World.grownBy_alloc _ _ none) (by simp)
  have d1 : Bx wz D #[.pointer (some ⟨Z, 0, none⟩), .string fa, .slice p L.length cap, .slice none 0 0, .map (some w2.heap.size), .map (some (w2.heap.size + 1))] 51 := by
   have h1 := World.alloc_heap_new ((w2.alloc (.map #[] 0)).alloc (.map #[] 0)) (.cells #[.pointer (some ⟨w.heap.size + 1 + 1, 0, none⟩), .string fa, .slice p L.length cap, .slice none 0 0, .map (some w2.heap.size), .map (some (w2.heap.size + 1))] 51)
   rw [hwz, show ((w2.alloc (.map #[] 0)).alloc (.map #[] 0)).heap.size = D by simp; omega, hZ] at h1
   exact h1
  have b1 : Below w.heap.size w wz := by
   have q : Below w.heap.size w (((w.alloc (.map #[] 0)).alloc (.map #[] 0)).alloc (.cells #[.string apex, .slice none 0 0, .map (some w.heap.size), .map (some (w.heap.size + 1))] 61)) := (((Below.refl _ w).alloc (Nat.le_refl _) _).alloc (by simp) _).alloc (by simp; omega) _
   exact bstep (bstep q hb2 (by rw [s1]; omega)) hb3 (by omega)
  refine ⟨d1, z1, ⟨by simp [sce], Or.inl ⟨rfl, rfl⟩⟩, m3, m4, m1, m2, b1, by omega, by omega, by omega, Nat.le_refl _⟩
 rw [hwz, hZ, hD]
 obtain ⟨B, hB⟩ : ∃ B, wz.heap.size = B := ⟨_, rfl⟩
 obtain ⟨FK, hFK⟩ : ∃ FK, w2.heap.size + 1 = FK := ⟨_, rfl⟩
 obtain ⟨LK, hLK⟩ : ∃ LK, w2.heap.size = LK := ⟨_, rfl⟩
 obtain ⟨NM, hNM⟩ : ∃ NM, w.heap.size + 1 = NM := ⟨_, rfl⟩
 obtain ⟨RW, hRW⟩ : ∃ RW, w.heap.size = RW := ⟨_, rfl⟩
 have H1 : Hid (Dr w wz D Z LK FK RW NM B apex fa (.slice p L.length cap) (.slice none 0 0) (L.map senS) 0 0 0) := by
  rw [← hFK, ← hLK, ← hNM, ← hRW, ← hB]; exact H0
 rw [hFK, hLK, hNM, hRW]
 clear H0 hFK hLK hNM hRW hB hD hZ hwz HB2 HF hmm
 have HAT := hide' hat
 have HOK := hide' hok
 clear hat hok
 obtain ⟨i0, hi0, hz0, hz1, hz2⟩ := info_parts infoSe
 go_loopw [27] (fun kv wr => ∃ (k : Nat) (sv : Value), kv = .int .i64 (k : Int) ∧ k ≤ L.length ∧ Hid (Dr w wr D Z LK FK RW NM B apex fa (.slice p L.length cap) sv (L.map senS) k k k)) (fun kv _ => L.length - (intOf kv).toNat)
 case atStart => exact ⟨0, _, rfl, Nat.zero_le _, H1⟩
 case round =>
  obtain ⟨k, sv, rfl, hk, HD⟩ := hrel
  by_cases hlt : k < L.length
  ·obtain ⟨g, off, rfl, hg, r0, r1, r2, r3, r4⟩ := HAT.out k hlt
   have hbl := HD.out.bl
   have q0 := (hbl.cell (p := ⟨g, off + k * 5, none⟩) hg).trans r0
   have q1 := (hbl.cell (p := ⟨g, off + k * 5 + 1, none⟩) hg).trans r1
   have q2 := (hbl.cell (p := ⟨g, off + k * 5 + 2, none⟩) hg).trans r2
   have q3 := (hbl.cell (p := ⟨g, off + k * 5 + 3, none⟩) hg).trans r3
   have q4 := (hbl.cell (p := ⟨g, off + k * 5 + 4, none⟩) hg).trans r4
   have hks : k < (L.map senS).length := by rw [List.length_map]; exact hlt
   have hkz : (k : Int) < (L.length : Int) := by omega
   have hz := HOK.out _ (List.getElem_mem hlt)
   have HG : Hid (seG (senS L[k])) := seG_of hz
   obtain ⟨f1, f2, f3, f4, f5, f6, f7, f8, f9, f10, f11⟩ := ok_facts hz
   have HSe := hide' (fun W => senseOf_any L[k] W (by unfold maxLen; omega) (by unfold maxLen; omega))
   have HSk : Hid ((L.map senS)[k] = senS L[k]) := List.getElem_map ..
   have HTk : Hid ((L.map senS).take (k + 1) = (L.map senS).take k ++ [senS L[k]]) := by
    unfold Hid; rw [List.take_succ_eq_append_getElem hks, HSk.out]
   clear r0 r1 r2 r3 r4 hbl f1 f2 f3 f4 f5 f6 f7 f8 f9 f10 f11 hz
   obtain ⟨s, hs⟩ : ∃ s, senS L[k] = s := ⟨_, rfl⟩
   rw [hs] at HSe HSk HTk HG
   obtain ⟨rr, hrr⟩ : ∃ rr, L[k] = rr := ⟨_, rfl⟩
   rw [hrr] at q0 q1 q2 q3 q4 HSe
   clear hs hrr
   obtain ⟨S, hS⟩ : ∃ S, L.map senS = S := ⟨_, rfl⟩
   have HSk2 : Hid (∃ h : k < S.length, S[k] = s) := by subst hS; exact ⟨hks, HSk.out⟩
   rw [hS] at HD HTk
   have HSS := hide' hS
   clear hS HSk hks
   obtain ⟨o, t, c, l, d⟩ := rr
   obtain ⟨so, st, sd⟩ := s
   simp only [seV] at q0 q1 q2 q3 q4 HSe
   have sz1 := HD.out.sz
   obtain ⟨wb, hwb⟩ : ∃ wb, wr.alloc (.cells #[.string o, .int .i64 t, .int .i64 c, .int .i64 l, .string d] 29) = wb := ⟨_, rfl⟩
   have HBb : Hid (Below wr.heap.size wr wb) := hwb ▸ (Below.refl _ wr).alloc (Nat.le_refl _) _
   have HXb : Hid (Bx wb wr.heap.size #[.string o, .int .i64 t, .int .i64 c, .int .i64 l, .string d] 29) := hwb ▸ World.alloc_heap_new wr _
   have v0 : wb.cell? ⟨wr.heap.size, 0, none⟩ = some (.string o) := HXb.out.cell rfl
   have v1 : wb.cell? ⟨wr.heap.size, 1, none⟩ = some (.int .i64 t) := HXb.out.cell rfl
   have v2 : wb.cell? ⟨wr.heap.size, 2, none⟩ = some (.int .i64 c) := HXb.out.cell rfl
   have v3 : wb.cell? ⟨wr.heap.size, 3, none⟩ = some (.int .i64 l) := HXb.out.cell rfl
   have v4 : wb.cell? ⟨wr.heap.size, 4, none⟩ = some (.string d) := HXb.out.cell rfl
   go_wp2_with (go_at_call 38; refine (HSe.out _).mono ?_; rintro r w3 ⟨rfl, hB3⟩; have HB3 := hide' (bstep HBb.out hB3 HBb.out.size); clear hB3 v0 v1 v2 v3 v4)
   obtain ⟨w4, hw4⟩ : ∃ w4, w3.alloc (.cells #[.string so, .int .i64 st, .string sd] 83) = w4 := ⟨_, rfl⟩
   have hB34 : Below w3.heap.size w3 w4 := hw4 ▸ (Below.refl _ w3).alloc (Nat.le_refl _) _
   have HX4 : Hid (Bx w4 w3.heap.size #[.string so, .int .i64 st, .string sd] 83) := hw4 ▸ World.alloc_heap_new w3 _
   have HD3 := hide' (HD.out.step HB3.out)
   have HD4 := hide' (HD3.out.step hB34)
   rw [hw4]
   clear hw4 q0 q1 q2 q3 q4
   have x0 : w4.cell? ⟨w3.heap.size, 0, none⟩ = some (.string so) := HX4.out.cell rfl
   have x1 : w4.cell? ⟨w3.heap.size, 1, none⟩ = some (.int .i64 st) := HX4.out.cell rfl
   have x2 : w4.cell? ⟨w3.heap.size, 2, none⟩ = some (.string sd) := HX4.out.cell rfl
   have d3 : w4.cell? ⟨D, 3, none⟩ = some sv := HD4.out.dx.cell rfl
   have ag := ownBlk_ne HD3.out.own
   have hw34 : w3.heap.size < w4.heap.size := HX4.out.lt
   have hn1 : k + 1 ≤ maxLen := by unfold maxLen; omega
   have hb1 : (k + 1) * 40 ≤ 140737488355328 := by omega
   have sz4 : B ≤ w4.heap.size := HD4.out.sz
   have HK5 : Hid (∀ (w5 : World) (v : Value), (w4.alloc (.cells #[.string so, .int .i64 st, .string sd] 83)).drew.grownBy w5 sv.ownBlock → w5.ownsRow B 83 3 v (k + 1) (sce (S.take k) ++ [.string so, .int .i64 st, .string sd]) → Dr w (w5.setCell ⟨D, 3, none⟩ v) D Z LK FK RW NM B apex fa (.slice (some ⟨g, off, none⟩) L.length cap) v S (k + 1) k k ∧ Bx (w5.setCell ⟨D, 3, none⟩ v) w3.heap.size #[.string so, .int .i64 st, .string sd] 83 ∧ w5.cell? ⟨D, 3, none⟩ = some sv ∧ w5.frozen? ⟨D, 3, none⟩ = false) := fun w5 v hgr how => by
    have hd : Dr w (w4.alloc (.cells #[.string so, .int .i64 st, .string sd] 83)).drew D Z LK FK RW NM B apex fa (.slice (some ⟨g, off, none⟩) L.length cap) sv S k k k := HD4.out.step (((Below.refl _ w4).alloc (Nat.le_refl _) _).drew)
    have ho : w5.ownsRow B 83 3 v (k + 1) (sce (S.take (k + 1))) := by rw [HTk.out, sce_app]; exact how
    have hdl := hd.lt.1
    have hne : sv.ownBlock ≠ some D := fun e => by have := own_ge hd.own e; omega
    have hd5 := hd.dx.grown hgr hne
    refine ⟨hd.app hgr ho, ?_, hd5.cell rfl, hd5.free 3⟩
    have hx : Bx (w4.alloc (.cells #[.string so, .int .i64 st, .string sd] 83)).drew w3.heap.size #[.string so, .int .i64 st, .string sd] 83 := HX4.out.below (((Below.refl _ w4).alloc (Nat.le_refl _) _).drew) hw34
    have h3 : B ≤ w3.heap.size := HD3.out.sz
    exact (hx.grown hgr ag).grown (grown_set w5 D 3 v) (by simp; omega)
   have d3b : (w4.alloc (.cells #[.string so, .int .i64 st, .string sd] 83)).drew.cell? ⟨D, 3, none⟩ = some sv := (HD4.out.step (((Below.refl _ w4).alloc (Nat.le_refl _) _).drew)).dx.cell rfl
   go_cut [] from 34 to 43 (fun wc => ∃ v, Hid (Dr w wc D Z LK FK RW NM B apex fa (.slice (some ⟨g, off, none⟩) L.length cap) v S (k + 1) k k) ∧ Hid (Bx wc w3.heap.size #[.string so, .int .i64 st, .string sd] 83))
   case first =>
    go_region_law
     ((refine step_append_lies _ (by rfl) _ _ _ (by rfl) B 83 i0 _ 3 40 Tryz.underlying47 hi0 hz0 hz1 hz2 rfl (by omega) sv k (sce (S.take k)) (by rfl) ((HD4.out.own.alloc _).drew)
             ⟨w4.heap.size, 0, none⟩ 1 1 [.string so, .int .i64 st, .string sd] (by rfl) (by rfl) (World.news_of_block (cs := #[.string so, .int .i64 st, .string sd]) (t := 83) (fr := (0, 0)) (heap_alloc_new w4 _)) (by simp [Value.oneCell'])
             (by omega) hn1 hb1 (by simp; omega) (w4.heap.size + 1) (by simp) ?_; intro gg cap2 w5 hown5 hgrow hat5 hlt5; obtain ⟨y1, y2, y3, y4⟩ := HK5.out w5 _ hgrow hown5; have Y1 := hide' y1; have Y2 := hide' y2; clear y1 y2))
    all_goals
     go_wp2_with fail
     go_meet
     exact ⟨_, Y1, Y2⟩
   case rest =>
    clear HK5 HX4 HD3 HD4 HD x0 x1 x2 d3 d3b ag HXb HBb HB3
    obtain ⟨v6, HD6, HX6⟩ := hcut
    obtain ⟨hks, hsk⟩ := HSk2.out
    have HXs : Hid (∀ W, Below wc.heap.size wc W → Bx W w3.heap.size #[.string so, .int .i64 st, .string sd] 83) := fun W hW => HX6.out.below hW HX6.out.lt
    have x0 : wc.cell? ⟨w3.heap.size, 0, none⟩ = some (.string so) := HX6.out.cell rfl
    have x1 : wc.cell? ⟨w3.heap.size, 1, none⟩ = some (.int .i64 st) := HX6.out.cell rfl
    have x2 : wc.cell? ⟨w3.heap.size, 2, none⟩ = some (.string sd) := HX6.out.cell rfl
    have d4 : wc.cell? ⟨D, 4, none⟩ = some (.map (some LK)) := HD6.out.dx.cell rfl
    have d5 : wc.cell? ⟨D, 5, none⟩ = some (.map (some FK)) := HD6.out.dx.cell rfl
    have hl := (HD6.out.step (Below.refl _ wc).drew).lk.look HG.out
    have HPl : Hid (∀ W, Calls Tryz.prog 39 #[.agg #[.string so, .int .i64 st, .string sd]] W fun r w' => r = .returned (.agg #[.string so, .int .i64 st]) ∧ Below W.heap.size W w') := fun W => placeOf_any (so, st, sd) W
    unfold seV at hl
    simp only at hl
    have HGp : Hid (plG (so, st)) := plG_of HG.out
    have hkm : k < maxLen := by unfold maxLen; omega
    have HSD3 : w3.heap.size ≠ LK ∧ w3.heap.size ≠ FK := by
     have h1 := HD6.out.lt
     have h2 := HX6.out.lt
     exact ⟨HD6.out.lk.ne HX6.out, HD6.out.fi.ne HX6.out⟩
    cases hlk : likesF S k (so, st, sd) with
    | some y0 =>
     have HD7 : Hid (Dr w wc D Z LK FK RW NM B apex fa (.slice (some ⟨g, off, none⟩) L.length cap) v6 S (k + 1) (k + 1) k) := HD6.out.like_same hks (by rw [hsk, hlk]; rfl)
     have hfs : (firstF S k (plOf S[k])).isSome = true := by rw [hsk]; exact like_first (by rw [hlk]; rfl)
     have HD9 : Hid (Dr w wc D Z LK FK RW NM B apex fa (.slice (some ⟨g, off, none⟩) L.length cap) v6 S (k + 1) (k + 1) (k + 1)) := HD7.out.firs_same hks hfs
     rw [hsk] at hfs
     change (firstF S k (so, st)).isSome = true at hfs
     obtain ⟨y1, hy1⟩ := Option.isSome_iff_exists.1 hfs
     rw [hlk] at hl
     simp only [Option.getD_some, Option.isSome_some] at hl
     have HLF : Hid (∀ W, Below wc.heap.size wc W → (Instr.lookup 49 (.map (some FK)) (.agg #[.string so, .int .i64 st]) true).run Tryz.prog W = .ok (.tuple #[.int .i64 (y1 : Int), .bool true]) W) := fun W hW => by
      have := (HD7.out.step hW).fi.look HGp.out
      rw [hy1] at this
      exact this
     have HS10 : Hid (∀ V, Below wc.heap.size wc V → V.cell? ⟨D, 5, none⟩ = some (.map (some FK)) ∧ V.cell? ⟨w3.heap.size, 0, none⟩ = some (.string so) ∧ V.cell? ⟨w3.heap.size, 1, none⟩ = some (.int .i64 st) ∧ V.cell? ⟨w3.heap.size, 2, none⟩ = some (.string sd)) := fun V hV =>
      ⟨(HD7.out.step hV).dx.cell rfl, (HXs.out V hV).cell rfl, (HXs.out V hV).cell rfl, (HXs.out V hV).cell rfl⟩
     clear hlk hfs hy1 hsk hks HD6 HX6
     go_wp2_with fail
     go_region_held3 (fun V => V.cell? ⟨D, 4, none⟩ = some (.map (some LK)) ∧ V.cell? ⟨w3.heap.size, 0, none⟩ = some (.string so) ∧ V.cell? ⟨w3.heap.size, 1, none⟩ = some (.int .i64 st) ∧ V.cell? ⟨w3.heap.size, 2, none⟩ = some (.string sd)) (first | go_keep) (fail)
     go_wp2_with fail
     have hB := (Below.refl wc.heap.size wc).drew
     go_region_held3 (fun V => V.cell? ⟨D, 5, none⟩ = some (.map (some FK)) ∧ V.cell? ⟨w3.heap.size, 0, none⟩ = some (.string so) ∧ V.cell? ⟨w3.heap.size, 1, none⟩ = some (.int .i64 st) ∧ V.cell? ⟨w3.heap.size, 2, none⟩ = some (.string sd)) (first | go_keep | (with_reducible exact HS10.out _ hB)) ((go_at_call 39; refine (HPl.out _).mono ?_; rintro r w8 ⟨rfl, hB8⟩; have hB := below_any hB hB8 (by first | exact .inl rfl | exact .inr rfl) hB.size; have hlf := HLF.out _ hB; clear hB8))
     all_goals
      go_wp2_with fail
      refine ⟨⟨k + 1, v6, by go_num, by omega, ?_⟩, by simp [intOf]; omega⟩
      have := HD9.out.step hB
      rw [← HSS.out] at this
      exact this
    | none =>
     obtain ⟨hn1, hn2⟩ := likes_new hks (by rw [hsk]; exact hlk)
     rw [hsk] at hn1 hn2
     obtain ⟨w7, hrun7, hM7, hg7⟩ := (HD6.out.step (Below.refl _ wc).drew.drew).lk.store HG.out k (by omega) hkm hn1 (fun z _ hz => hn2 z hz)
     have HD7 : Hid (Dr w w7 D Z LK FK RW NM B apex fa (.slice (some ⟨g, off, none⟩) L.length cap) v6 S (k + 1) (k + 1) k) := (HD6.out.step (Below.refl _ wc).drew.drew).like hg7 hM7
     have HX7 : Hid (Bx w7 w3.heap.size #[.string so, .int .i64 st, .string sd] 83) := (HXs.out _ (Below.refl _ wc).drew.drew).grown hg7 (by simp; exact fun e => HSD3.1 e.symm)
     have HXs7 : Hid (∀ W, Below w7.heap.size w7 W → Bx W w3.heap.size #[.string so, .int .i64 st, .string sd] 83) := fun W hW => HX7.out.below hW HX7.out.lt
     have HS9 : Hid (w7.cell? ⟨D, 4, none⟩ = some (.map (some LK)) ∧ w7.cell? ⟨w3.heap.size, 0, none⟩ = some (.string so) ∧ w7.cell? ⟨w3.heap.size, 1, none⟩ = some (.int .i64 st) ∧ w7.cell? ⟨w3.heap.size, 2, none⟩ = some (.string sd)) := ⟨HD7.out.dx.cell rfl, HX7.out.cell rfl, HX7.out.cell rfl, HX7.out.cell rfl⟩
     unfold seV at hrun7
     simp only at hrun7
     rw [hlk] at hl
     simp only [Option.getD_none, Option.isSome_none] at hl
     have HS10 : Hid (∀ V, Below w7.heap.size w7 V → V.cell? ⟨D, 5, none⟩ = some (.map (some FK)) ∧ V.cell? ⟨w3.heap.size, 0, none⟩ = some (.string so) ∧ V.cell? ⟨w3.heap.size, 1, none⟩ = some (.int .i64 st) ∧ V.cell? ⟨w3.heap.size, 2, none⟩ = some (.string sd)) := fun V hV =>
      ⟨(HD7.out.step hV).dx.cell rfl, (HXs7.out V hV).cell rfl, (HXs7.out V hV).cell rfl, (HXs7.out V hV).cell rfl⟩
     have y0 : w7.cell? ⟨w3.heap.size, 0, none⟩ = some (.string so) := HX7.out.cell rfl
     have y1 : w7.cell? ⟨w3.heap.size, 1, none⟩ = some (.int .i64 st) := HX7.out.cell rfl
     have y2 : w7.cell? ⟨w3.heap.size, 2, none⟩ = some (.string sd) := HX7.out.cell rfl
     have y4 : w7.cell? ⟨D, 4, none⟩ = some (.map (some LK)) := HD7.out.dx.cell rfl
     have y5 : w7.cell? ⟨D, 5, none⟩ = some (.map (some FK)) := HD7.out.dx.cell rfl
     clear hlk hn1 hn2 hM7 hg7 HD6 HX6
     cases hfk : firstF S k (so, st) with
     | some z1 =>
      have HD9 : Hid (Dr w w7 D Z LK FK RW NM B apex fa (.slice (some ⟨g, off, none⟩) L.length cap) v6 S (k + 1) (k + 1) (k + 1)) := HD7.out.firs_same hks (by rw [hsk]; change (firstF S k (so, st)).isSome = true; rw [hfk]; rfl)
      have HLF : Hid (∀ W, Below w7.heap.size w7 W → (Instr.lookup 49 (.map (some FK)) (.agg #[.string so, .int .i64 st]) true).run Tryz.prog W = .ok (.tuple #[.int .i64 (z1 : Int), .bool true]) W) := fun W hW => by
       have := (HD7.out.step hW).fi.look HGp.out
       rw [hfk] at this
       exact this
      clear hfk hsk hks
      go_wp2_with fail
      go_region_held3 (fun V => V.cell? ⟨D, 4, none⟩ = some (.map (some LK)) ∧ V.cell? ⟨w3.heap.size, 0, none⟩ = some (.string so) ∧ V.cell? ⟨w3.heap.size, 1, none⟩ = some (.int .i64 st) ∧ V.cell? ⟨w3.heap.size, 2, none⟩ = some (.string sd)) (first | go_keep) (fail)
      go_wp2_with fail
      go_region_held3 (fun V => V.cell? ⟨D, 4, none⟩ = some (.map (some LK)) ∧ V.cell? ⟨w3.heap.size, 0, none⟩ = some (.string so) ∧ V.cell? ⟨w3.heap.size, 1, none⟩ = some (.int .i64 st) ∧ V.cell? ⟨w3.heap.size, 2, none⟩ = some (.string sd)) (first | go_keep | (with_reducible exact HS9.out)) (fail)
      go_wp2_with fail
      have hB := (Below.refl w7.heap.size w7).drew
      go_region_held3 (fun V => V.cell? ⟨D, 5, none⟩ = some (.map (some FK)) ∧ V.cell? ⟨w3.heap.size, 0, none⟩ = some (.string so) ∧ V.cell? ⟨w3.heap.size, 1, none⟩ = some (.int .i64 st) ∧ V.cell? ⟨w3.heap.size, 2, none⟩ = some (.string sd)) (first | go_keep | (with_reducible exact HS10.out _ hB)) ((go_at_call 39; refine (HPl.out _).mono ?_; rintro r w8 ⟨rfl, hB8⟩; have hB := below_any hB hB8 (by first | exact .inl rfl | exact .inr rfl) hB.size; have hlf := HLF.out _ hB; clear hB8))
      all_goals
       go_wp2_with fail
       refine ⟨⟨k + 1, v6, by go_num, by omega, ?_⟩, by simp [intOf]; omega⟩
       have := HD9.out.step hB
       rw [← HSS.out] at this
       exact this
     | none =>
      obtain ⟨hn1, hn2⟩ := first_new hks (by rw [hsk]; exact hfk)
      rw [hsk] at hn1 hn2
      have HLF : Hid (∀ W, Below w7.heap.size w7 W → (Instr.lookup 49 (.map (some FK)) (.agg #[.string so, .int .i64 st]) true).run Tryz.prog W = .ok (.tuple #[.int .i64 0, .bool false]) W) := fun W hW => by
       have := (HD7.out.step hW).fi.look HGp.out
       rw [hfk] at this
       exact this
      have HST : Hid (∀ W, Below w7.heap.size w7 W → ∃ w9, (Instr.mapUpdate 49 (.map (some FK)) (.agg #[.string so, .int .i64 st]) (.int .i64 (k : Int))).run Tryz.prog W = .ok () w9 ∧ Hid (Dr w w9 D Z LK FK RW NM B apex fa (.slice (some ⟨g, off, none⟩) L.length cap) v6 S (k + 1) (k + 1) (k + 1)) ∧ Hid (w9.cell? ⟨D, 5, none⟩ = some (.map (some FK)) ∧ w9.cell? ⟨w3.heap.size, 0, none⟩ = some (.string so) ∧ w9.cell? ⟨w3.heap.size, 1, none⟩ = some (.int .i64 st) ∧ w9.cell? ⟨w3.heap.size, 2, none⟩ = some (.string sd))) := fun W hW => by
       obtain ⟨w9, h1, h2, h3⟩ := (HD7.out.step hW).fi.store HGp.out k (by omega) hkm hn1 (fun z _ hz => hn2 z hz)
       have hx := (HXs7.out W hW).grown h3 (by simp; exact fun e => HSD3.2 e.symm)
       have hd := (HD7.out.step hW).firs h3 h2
       exact ⟨w9, h1, hd, ⟨hd.dx.cell rfl, hx.cell rfl, hx.cell rfl, hx.cell rfl⟩⟩
      clear hfk hsk hks hn1 hn2
      go_wp2_with fail
      go_region_held3 (fun V => V.cell? ⟨D, 4, none⟩ = some (.map (some LK)) ∧ V.cell? ⟨w3.heap.size, 0, none⟩ = some (.string so) ∧ V.cell? ⟨w3.heap.size, 1, none⟩ = some (.int .i64 st) ∧ V.cell? ⟨w3.heap.size, 2, none⟩ = some (.string sd)) (first | go_keep) (fail)
      go_wp2_with fail
      go_region_held3 (fun V => V.cell? ⟨D, 4, none⟩ = some (.map (some LK)) ∧ V.cell? ⟨w3.heap.size, 0, none⟩ = some (.string so) ∧ V.cell? ⟨w3.heap.size, 1, none⟩ = some (.int .i64 st) ∧ V.cell? ⟨w3.heap.size, 2, none⟩ = some (.string sd)) (first | go_keep | (with_reducible exact HS9.out)) (fail)
      go_wp2_with fail
      have hB := (Below.refl w7.heap.size w7).drew
      go_region_held3 (fun V => V.cell? ⟨D, 5, none⟩ = some (.map (some FK)) ∧ V.cell? ⟨w3.heap.size, 0, none⟩ = some (.string so) ∧ V.cell? ⟨w3.heap.size, 1, none⟩ = some (.int .i64 st) ∧ V.cell? ⟨w3.heap.size, 2, none⟩ = some (.string sd)) (first | go_keep | (with_reducible exact HS10.out _ hB)) ((go_at_call 39; refine (HPl.out _).mono ?_; rintro r w8 ⟨rfl, hB8⟩; have hB := below_any hB hB8 (by first | exact .inl rfl | exact .inr rfl) hB.size; have hlf := HLF.out _ hB; clear hB8))
      all_goals
       go_wp2_with fail
       have hB := hB.drew
       obtain ⟨e5, e0, e1, e2⟩ := HS10.out _ hB
       go_region_held3 (fun V => V.cell? ⟨D, 5, none⟩ = some (.map (some FK)) ∧ V.cell? ⟨w3.heap.size, 0, none⟩ = some (.string so) ∧ V.cell? ⟨w3.heap.size, 1, none⟩ = some (.int .i64 st) ∧ V.cell? ⟨w3.heap.size, 2, none⟩ = some (.string sd)) (first | go_keep | (with_reducible exact HS10.out _ hB) | (with_reducible exact HZ9.out)) ((go_at_call 39; refine (HPl.out _).mono ?_; rintro r w10 ⟨rfl, hB8⟩; have hB := below_any hB hB8 (by first | exact .inl rfl | exact .inr rfl) hB.size; obtain ⟨w9, hrun9, HD9, HZ9⟩ := HST.out _ hB; clear hB8))
       all_goals
        go_wp2_with fail
        refine ⟨⟨k + 1, v6, by go_num, by omega, ?_⟩, by simp [intOf]; omega⟩
        have := HD9.out
        rw [← HSS.out] at this
        exact this
  ·obtain rfl : k = L.length := by omega
   have HLy := hide' (HL.out wr D Z LK FK RW NM B sv HD.out)
   go_wp2_with (go_at_call 40; refine HLy.out.mono ?_; rintro r w9 ⟨rfl, hq⟩; have HQ := hide' hq; clear hq)
   go_ret
   exact ⟨_, rfl, HQ.out⟩
end Go.Proofs.YtoabnpdoicbpiaaGreat
