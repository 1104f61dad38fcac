import Derived.Test.YtoabnpdoicbpiaaGreatZp1G
import Derived.Test.YtoabnpdoicbpiaaGreatZs5G
import Derived.Test.YtoabnpdoicbpiaaGreatSf8G
import Derived.Deep.RegionHeld3
import Derived.Test.YtoabnpdoicbpiaaGreatWkG
namespace Go.Proofs.YtoabnpdoicbpiaaGreat
set_option linter.unusedVariables false
set_option linter.unusedSimpArgs false
open Go.RowKit Go.Shelf Go.Maps Go.Proofs.YtoabnpdoicbpiaaGreat.Nm Go.Proofs.YtoabnpdoicbpiaaGreat.Zs
def noSe : Se := (⟨#[]⟩, 0, ⟨#[]⟩)
def seAt (S : List Se) (i : Nat) : Se := S.getD i noSe
theorem seAt_get {S : List Se} {i : Nat} (h : i < S.length) : S[i] = seAt S i := by simp [seAt, List.getD, h]
def ltS (S : List Se) (x y : Nat) : Bool := if x < S.length ∧ y < S.length then decide (cmpS (seAt S x) (seAt S y) < 0) else decide (x < S.length)
def updR (f : Pl → Option (Nat × Nat)) (p : Pl) (k : Nat) : Pl → Option (Nat × Nat) := fun q => if q = p then some (grw (f q) k) else f q
def rowsF (U : List Se) : Nat → Pl → Option (Nat × Nat)
 | 0 => fun _ => none
 | k + 1 => updR (updR (rowsF U k) (plOf (seAt U k)) k) ((seAt U k).1, 0) k
theorem updR_same (f : Pl → Option (Nat × Nat)) (p : Pl) (k : Nat) : updR f p k p = some (grw (f p) k) := by unfold updR; rw [if_pos rfl]
theorem updR_other (f : Pl → Option (Nat × Nat)) (p : Pl) (k : Nat) (z : Pl) (h : z ≠ p) : updR f p k z = f z := by unfold updR; rw [if_neg h]
structure Ly (w wr : World) (D Z LK FK RW NM B C P g : Nat) (apex fa : ByteArray) (gv sv rv : Value) (S : List Se) (T : List Rn) (ord : List Nat) (n m : Nat) (rf : Pl → Option (Nat × Nat)) : Prop where
 dx : Bx wr D #[.pointer (some ⟨Z, 0, none⟩), .string fa, gv, sv, .map (some LK), .map (some FK)] 51
 zx : Bx wr Z #[.string apex, rv, .map (some RW), .map (some NM)] 61
 px : Bx wr P #[.pointer (some ⟨D, 0, none⟩)] 43
 nb : Nb wr g ord
 sown : wr.ownsRow B 83 3 sv n (sce S)
 rown : wr.ownsRow C 29 5 rv T.length (rce5 T)
 lk : MLk wr LK n (likesF S n)
 fi : MFi wr FK n (firstF S n)
 rw' : MRow wr RW m rf
 nm : MNm wr NM 0 (fun _ => none)
 bl : Below w.heap.size w wr
 ge : w.heap.size ≤ D ∧ w.heap.size ≤ Z ∧ w.heap.size ≤ LK ∧ w.heap.size ≤ FK ∧ w.heap.size ≤ RW ∧ w.heap.size ≤ NM ∧ w.heap.size ≤ P ∧ w.heap.size ≤ g
 lt : D < B ∧ Z < B ∧ LK < B ∧ FK < B ∧ RW < B ∧ NM < B ∧ B ≤ P ∧ P < g ∧ g < C
 ne : LK ≠ FK ∧ LK ≠ RW ∧ LK ≠ NM ∧ FK ≠ RW ∧ FK ≠ NM ∧ RW ≠ NM ∧ D ≠ Z
 so : ∀ q, sv.ownBlock = some q → q < P
 sz : C ≤ wr.heap.size
section
variable {w wr w2 : World} {D Z LK FK RW NM B C P g : Nat} {apex fa : ByteArray} {gv sv rv rv' : Value} {S : List Se} {T : List Rn} {ord : List Nat} {n m : Nat} {rf rf' : Pl → Option (Nat × Nat)}
theorem Ly.step (h : Ly w wr D Z LK FK RW NM B C P g apex fa gv sv rv S T ord n m rf) (hb : Below wr.heap.size wr w2) : Ly w w2 D Z LK FK RW NM B C P g apex fa gv sv rv S T ord n m rf :=
 ⟨h.dx.below hb h.dx.lt, h.zx.below hb h.zx.lt, h.px.below hb h.px.lt, h.nb.below hb h.nb.lt, h.sown.kept (grown_below hb none) (Classical.em _), h.rown.kept (grown_below hb none) (Classical.em _), h.lk.grown (grown_below hb none) (by simp), h.fi.grown (grown_below hb none) (by simp), h.rw'.grown (grown_below hb none) (by simp), h.nm.grown (grown_below hb none) (by simp), bstep h.bl hb h.bl.size, h.ge, h.lt, h.ne, h.so, Nat.le_trans h.sz hb.size⟩
theorem Ly.app (h : Ly w wr D Z LK FK RW NM B C P g apex fa gv sv rv S T ord n m rf) (r : Rn) (hg : wr.grownBy w2 rv.ownBlock) (ho : w2.ownsRow C 29 5 rv' (T.length + 1) (rce5 T ++ ren5 r)) : Ly w (w2.setCell ⟨Z, 1, none⟩ rv') D Z LK FK RW NM B C P g apex fa gv sv rv' S (T ++ [r]) ord n m rf := by
 obtain ⟨l1, l2, l3, l4, l5, l6, l7, l8, l9⟩ := h.lt
 obtain ⟨g1, g2, g3, g4, g5, g6, g7, g8⟩ := h.ge
 have far : ∀ X, X < C → rv.ownBlock ≠ some X := fun X hX e => by have := own_ge h.rown e; omega
 have nz1 := h.lk.ne h.zx
 have nz2 := h.fi.ne h.zx
 have nz3 := h.rw'.ne h.zx
 have nz4 := h.nm.ne h.zx
 have hs : w2.grownBy (w2.setCell ⟨Z, 1, none⟩ rv') (some Z) := grown_set w2 Z 1 rv'
 have own' : rv'.ownBlock = none ∨ rv'.ownBlock ≠ some Z := Or.inr fun e => by have := own_ge ho e; omega
 have hn : T.length + 1 = (T ++ [r]).length := by simp
 have hr : rce5 T ++ ren5 r = rce5 (T ++ [r]) := by rw [rce5_app]; simp [rce5]
 rw [hn, hr] at ho
 have ho' := ho.kept hs own'
 refine ⟨(h.dx.grown hg (far _ (by omega))).grown hs (by simp; exact fun e => h.ne.2.2.2.2.2.2 e.symm), (h.zx.grown hg (far _ (by omega))).set 1 rv', (h.px.grown hg (far _ (by omega))).grown hs (by simp; omega), Bx.grown (Bx.grown h.nb hg (far _ (by omega))) hs (by simp; omega), (h.sown.kept hg ?_).kept hs (Or.inr fun e => by have := own_ge h.sown e; omega), ho', (h.lk.grown hg (fun e => far _ (by omega) e.symm)).grown hs (by simp; omega), (h.fi.grown hg (fun e => far _ (by omega) e.symm)).grown hs (by simp; omega), (h.rw'.grown hg (fun e => far _ (by omega) e.symm)).grown hs (by simp; omega), (h.nm.grown hg (fun e => far _ (by omega) e.symm)).grown hs (by simp; omega), ?_, h.ge, h.lt, h.ne, h.so, ?_⟩
 ·cases hsv : sv.ownBlock with
  | none => exact Or.inl rfl
  | some q => exact Or.inr fun e => far q (by have := h.so q hsv; omega) e.symm
 ·exact (h.bl.grown hg h.bl.size (fun q e => by have := own_ge h.rown e; omega)).setCell g2 _
 ·rw [set_size]; exact Nat.le_trans h.sz hg.size
theorem Ly.row (h : Ly w wr D Z LK FK RW NM B C P g apex fa gv sv rv S T ord n m rf) {m' : Nat} (hg : wr.grownBy w2 (some RW)) (hm : MRow w2 RW m' rf') : Ly w w2 D Z LK FK RW NM B C P g apex fa gv sv rv S T ord n m' rf' := by
 obtain ⟨l1, l2, l3, l4, l5, l6, l7, l8, l9⟩ := h.lt
 obtain ⟨g1, g2, g3, g4, g5, g6, g7, g8⟩ := h.ge
 obtain ⟨n1, n2, n3, n4, n5, n6, n7⟩ := h.ne
 have nd1 := h.rw'.ne h.dx
 have nz1 := h.rw'.ne h.zx
 refine ⟨h.dx.grown hg (by simp; omega), h.zx.grown hg (by simp; omega), h.px.grown hg (by simp; omega), Bx.grown h.nb hg (by simp; omega), h.sown.kept hg (Or.inr fun e => by have := own_ge h.sown e; omega), h.rown.kept hg (Or.inr fun e => by have := own_ge h.rown e; omega), h.lk.grown hg (by simp; omega), h.fi.grown hg (by simp; omega), hm, h.nm.grown hg (by simp; omega), h.bl.grown hg h.bl.size (fun q e => by cases e; exact g5), h.ge, h.lt, h.ne, h.so, Nat.le_trans h.sz hg.size⟩
end
end Go.Proofs.YtoabnpdoicbpiaaGreat
namespace Go.Proofs.YtoabnpdoicbpiaaGreat
set_option linter.unusedVariables false
open Go.RowKit Go.Shelf Go.Proofs.YtoabnpdoicbpiaaGreat.Nm
theorem takeD {P : Program} {ops : Array Oper} {Q : Exit → Act → World → Prop} {md : Region.Mode} {S : World → Prop} (i : Nat) (d : Option Tmp) (v : Value) {oi : Oper} {fuel : Nat} {listed : Array Bool} {a : Act} {w : World} (hi : ops[i]? = some oi) (hd : oi.dst = d)
  (hs : Region.noSelect ops = true) (hf : Region.free md ops listed i = true) (hr : (Region.ready md ops listed).contains i = true)
  (hQ : ∀ c a w, Q (.panic c) (a.put d v) w → Q (.panic c) a w) (hy : YieldsIf P ops S oi v a) (hS : S w)
  (h : wpAnyH P md ops Q S fuel (listed.setIfInBounds i true) (a.put d v) w) : wpAnyH P md ops Q S (fuel + 1) listed a w := by
 subst hd
 exact wpAnyH_take hi hs hf hr hQ hy hS h
set_option linter.unusedSimpArgs false
end Go.Proofs.YtoabnpdoicbpiaaGreat
namespace Go.Proofs.YtoabnpdoicbpiaaGreat
set_option linter.unusedVariables false
set_option linter.unusedSimpArgs false
open Go.RowKit Go.Shelf Go.Maps Go.Proofs.YtoabnpdoicbpiaaGreat.Nm Go.Proofs.YtoabnpdoicbpiaaGreat.Zs
theorem infoIn : (Tryz.prog.info? 3).map (fun i => (i.zero, i.size, i.bytes)) = some (some (.int .i64 0), 1, 8) := by kernel_rfl
theorem made_zen (n : Nat) : madeCells #[.int .i64 0] n = (zen (List.replicate n 0)).toArray := by
 apply Array.ext
 ·simp [madeCells, zen]
 ·intro i h1 h2
  simp [madeCells, zen, Nat.mod_one]
theorem range_set {n k : Nat} (h : k < n) : (List.range k ++ List.replicate (n - k) 0).set k k = List.range (k + 1) ++ List.replicate (n - (k + 1)) 0 := by
 obtain ⟨d, hd⟩ : ∃ d, n - k = d + 1 := ⟨n - k - 1, by omega⟩
 rw [hd, show n - (k + 1) = d by omega, List.replicate_succ, List.range_succ]
 have e : k = (List.range k).length := by simp
 conv => lhs; arg 2; rw [e]
 rw [List.set_append]
 simp
theorem sortStable_i (cv : Value) (lt : Nat → Nat → Bool) (O : Ord lt) (g cap n l : Nat) (L : List Nat) (w : World) (hl : l = L.length) (h : Nb w g L) (hC : Cm w g n cv lt) (hn : ∀ x ∈ L, x < n) (hL : L.length ≤ 1048576) :
  Calls Tryz.prog 70 #[.slice (some ⟨g, 0, none⟩) l cap, cmf cv] w fun r w' => r = .returned (.tuple #[]) ∧ ∃ L', So lt L' 0 L.length ∧ Nw w w' g L L' := by
 subst hl
 exact sortStable_any cv lt O g cap n L w h hC hn hL
def rAt (L : List Rn) (i : Nat) : Rn := L.getD i zR
theorem rAt_get {L : List Rn} {i : Nat} (h : i < L.length) : L[i] = rAt L i := by simp [rAt, List.getD, h]
set_option maxRecDepth 100000 in
set_option maxHeartbeats 2000000 in
theorem lay_any (w W : World) (D Z LK FK RW NM B : Nat) (apex fa : ByteArray) (sv : Value) (L : List Rn) (p : Option Addr) (cap : Nat) (hL : L.length ≤ 1048576) (hat : RsAt w p L) (hok : okL L) (O : Ord (ltS (L.map senS)))
  (h : Dr w W D Z LK FK RW NM B apex fa (.slice p L.length cap) sv (L.map senS) L.length L.length L.length) :
  Calls Tryz.prog 40 #[.pointer (some ⟨D, 0, none⟩)] W fun r w' => r = .returned (.tuple #[]) ∧ ∃ ord rv C P g m, Ly w w' D Z LK FK RW NM B C P g apex fa (.slice p L.length cap) sv rv (L.map senS) (ord.map (rAt L)) ord L.length m (rowsF (ord.map (seAt (L.map senS))) L.length) ∧ ord.Perm (List.range L.length) ∧ So (ltS (L.map senS)) ord 0 L.length := by
 obtain ⟨i0, hi, hz0, hz1, hz2⟩ := info_parts infoIn
 have HD := hide' h
 have HAT := hide' hat
 have HOK := hide' hok
 have HO := hide' O
 have hmk : ∀ u : World, (Instr.makeSlice 115 (.int .i64 (L.length : Int)) (.int .i64 (L.length : Int))).run Tryz.prog u = .ok (.slice (some ⟨u.heap.size, 0, none⟩) L.length L.length) (u.alloc (.cells (madeCells #[.int .i64 0] L.length) 3)) := fun u => by
  have h := run_make (P := Tryz.prog) u 115 3 i0 (.int .i64 0) Tryz.underlying115 hi hz0 .i64 .i64 (L.length : Int) (L.length : Int) (by omega) (by omega) (by rw [hz2]; omega) (by omega)
  simpa [hz1, Value.cells] using h
 obtain ⟨wa, hwa⟩ : ∃ wa, W.alloc (.cells #[.pointer (some ⟨D, 0, none⟩)] 43) = wa := ⟨_, rfl⟩
 have HBa : Hid (Below W.heap.size W wa) := hwa ▸ (Below.refl _ W).alloc (Nat.le_refl _) _
 have HPx : Hid (Bx wa W.heap.size #[.pointer (some ⟨D, 0, none⟩)] 43) := hwa ▸ World.alloc_heap_new W _
 have p0 : wa.cell? ⟨W.heap.size, 0, none⟩ = some (.pointer (some ⟨D, 0, none⟩)) := HPx.out.cell rfl
 have d2 : wa.cell? ⟨D, 2, none⟩ = some (.slice p L.length cap) := (HD.out.step HBa.out).dx.cell rfl
 clear h hat hok O
 go_enter Tryz.func40, Tryz.ntmps40
 go_wp2_with fail
 rw [made_zen]
 obtain ⟨wb, hwb⟩ : ∃ wb, wa.alloc (.cells (zen (List.replicate L.length 0)).toArray 3) = wb := ⟨_, rfl⟩
 have HBb : Hid (Below wa.heap.size wa wb) := hwb ▸ (Below.refl _ wa).alloc (Nat.le_refl _) _
 have HNb : Hid (Nb wb wa.heap.size (List.replicate L.length 0)) := hwb ▸ World.alloc_heap_new wa _
 rw [hwb]
 clear hwb hmk
 obtain ⟨g, hg⟩ : ∃ g, wa.heap.size = g := ⟨_, rfl⟩
 obtain ⟨P, hP⟩ : ∃ P, W.heap.size = P := ⟨_, rfl⟩
 have hPg : P < g := by rw [← hP, ← hg]; exact HPx.out.lt
 rw [hg, hP]
 rw [hg] at HNb
 go_loopw [15] (fun kv wr => ∃ k : Nat, kv = .int .i64 (k : Int) ∧ k ≤ L.length ∧ Hid (Nb wr g (List.range k ++ List.replicate (L.length - k) 0)) ∧ Hid (wb.grownBy wr (some g))) (fun kv _ => L.length - (intOf kv).toNat)
 case atStart => exact ⟨0, rfl, Nat.zero_le _, HNb, grown_refl _ _⟩
 case round =>
  obtain ⟨k, rfl, hk, HN, HGr⟩ := hrel
  by_cases hlt : k < L.length
  ·have c1 := HN.out.cell (k := k) (by simp; omega)
   have f1 := HN.out.free k
   have HN1 := hide' (HN.out.set k k)
   rw [range_set hlt] at HN1
   have HG1 := hide' (grown_trans HGr.out (grown_set wr g k (.int .i64 (k : Int))))
   go_wp2_with fail
   refine ⟨⟨k + 1, by go_num, by omega, HN1, HG1⟩, by simp [intOf]; omega⟩
  ·obtain rfl : k = L.length := by omega
   have HNr : Hid (Nb wr g (List.range L.length)) := by
    have := HN.out
    rw [Nat.sub_self] at this
    simpa [Hid] using this
   have HBW : Hid (∀ V, wr.grownBy V (some g) → Below P W V) := fun V hV => by
    have h1 : Below P W wa := hP ▸ HBa.out
    have h2 : Below P W wb := h1.trans (HBb.out.mono (by rw [hg]; omega))
    exact (h2.grown HGr.out (by rw [← hP]; exact h2.size) (fun q e => by cases e; omega)).grown hV (by have := (h2.grown HGr.out (by rw [← hP]; exact h2.size) (fun q e => by cases e; omega)).size; omega) (fun q e => by cases e; omega)
   have HPV : Hid (∀ V, wr.grownBy V (some g) → Bx V P #[.pointer (some ⟨D, 0, none⟩)] 43) := fun V hV => by
    have h1 : Bx wa P #[.pointer (some ⟨D, 0, none⟩)] 43 := hP ▸ HPx.out
    exact ((h1.below HBb.out h1.lt).grown HGr.out (by simp; omega)).grown hV (by simp; omega)
   obtain ⟨p', c', hsv, hc1, hc2, hc3⟩ := own_shape HD.out.own
   subst hsv
   have HC : Hid (Cm wr g L.length (.pointer (some ⟨P, 0, none⟩)) (ltS (L.map senS))) := fun x y V hx hy hV => by
    have hd := HD.out.step (hP ▸ HBW.out V hV)
    have hpx := HPV.out V hV
    have hss : SsAt V p' (L.map senS) := by
     have := hd.own
     rw [List.take_of_length_le (by simp)] at this
     exact ss_own this
    have hx' : x < (L.map senS).length := by simpa using hx
    have hy' : y < (L.map senS).length := by simpa using hy
    have h3 : V.cell? ⟨D, 3, none⟩ = some (.slice p' (L.map senS).length c') := by rw [List.length_map]; exact hd.dx.cell rfl
    refine (lay1_any (L.map senS) p' c' P D x y V hx' hy' (by simpa using hL) ?_ hpx.lt hd.dx.lt (hpx.cell rfl) h3 hss).mono ?_
    ·intro s hs
     obtain ⟨r, hr, rfl⟩ := List.mem_map.1 hs
     exact (seG_of (HOK.out r hr)).1
    ·rintro r w' ⟨rfl, hb⟩
     refine ⟨⟨_, rfl, ?_⟩, hb⟩
     unfold ltS
     rw [if_pos ⟨hx', hy'⟩, seAt_get hx', seAt_get hy']
   have HSo := hide' (sortStable_i (.pointer (some ⟨P, 0, none⟩)) (ltS (L.map senS)) HO.out g L.length L.length L.length (List.range L.length) wr (by simp) HNr.out HC.out (fun x hx => List.mem_range.1 hx) (by simpa using hL))
   clear HC HNr HN
   go_wp2_with (go_at_call 70; refine HSo.out.mono ?_; rintro r w2 ⟨rfl, ord, hso, hnw⟩; have HSd := hide' hso; have HNw := hide' hnw; clear hso hnw)
   clear HSo
   have HPm : Hid (ord.Perm (List.range L.length)) := HNw.out.pm
   have hol : ord.length = L.length := by have := HNw.out.len; simpa using this
   have H0 : Hid (Ly w w2 D Z LK FK RW NM B w2.heap.size P g apex fa (.slice p L.length cap) (.slice p' L.length c') (.slice none 0 0) (L.map senS) [] ord L.length 0 (fun _ => none)) := by
    have hd := HD.out.step (hP ▸ HBW.out w2 HNw.out.gr)
    have hown := hd.own
    rw [List.take_of_length_le (by simp)] at hown
    have hgl : g < w2.heap.size := HNw.out.nb.lt
    refine ⟨hd.dx, hd.zx, HPV.out w2 HNw.out.gr, HNw.out.nb, hown, ⟨rfl, Or.inl ⟨rfl, rfl⟩⟩, hd.lk, hd.fi, hd.rw', hd.nm, hd.bl, ?_, ?_, hd.ne, ?_, Nat.le_refl _⟩
    ·have h1 := HD.out.ge
     have h2 := HD.out.bl.size
     have h3 := HD.out.sz
     omega
    ·have h1 := HD.out.lt
     have h3 := HD.out.sz
     omega
    ·intro q hq
     obtain ⟨_, (⟨h1, _⟩ | ⟨g', cp, cur, h1, hb, hgg, _⟩)⟩ := HD.out.own
     ·rw [h1] at hq; cases hq
     ·rw [h1] at hq
      have h9 : g' = q := by simpa [Value.ownBlock] using hq
      have h10 := (Array.getElem?_eq_some_iff.1 hgg).1
      rw [h9, hP] at h10
      exact h10
   clear HBW HPV HD HNw HGr HBa HBb HPx HNb p0 d2
   obtain ⟨C, hC⟩ : ∃ C, w2.heap.size = C := ⟨_, rfl⟩
   rw [hC] at H0
   clear hC
   obtain ⟨S, hS⟩ : ∃ S, L.map senS = S := ⟨_, rfl⟩
   have hSl : S.length = L.length := by rw [← hS]; simp
   have HSG : Hid (∀ i, i < L.length → seG (seAt S i)) := fun i hi => by
    rw [← seAt_get (by omega)]
    subst hS
    rw [List.getElem_map]
    exact seG_of (HOK.out _ (List.getElem_mem hi))
   rw [hS] at H0 HSd
   have HSS := hide' hS
   clear hS
   have HIx : Hid (∀ k, k < L.length → ix ord k < L.length) := fun k hk => List.mem_range.1 (HPm.out.mem_iff.1 (ix_mem (by omega)))
   obtain ⟨U, hU⟩ : ∃ U, ord.map (seAt S) = U := ⟨_, rfl⟩
   have HUk : Hid (∀ k, k < L.length → seAt U k = seAt S (ix ord k)) := fun k hk => by
    have h1 : k < (ord.map (seAt S)).length := by simpa using (by omega : k < ord.length)
    rw [← hU, ← seAt_get h1, List.getElem_map, ix_get (by omega)]
   have HTk : Hid (∀ k, k < L.length → (ord.take (k + 1)).map (rAt L) = (ord.take k).map (rAt L) ++ [rAt L (ix ord k)]) := fun k hk => by
    rw [List.take_succ_eq_append_getElem (by omega), List.map_append, ix_get (by omega)]
    rfl
   have HTl : Hid (∀ k, k ≤ L.length → ((ord.take k).map (rAt L)).length = k) := fun k hk => by
    rw [List.length_map, List.length_take]; omega
   have HUU := hide' hU
   clear hU
   obtain ⟨i5, hi5, hy0, hy1, hy2⟩ := info_parts infoRM
   go_loopw [28] (fun kv wr => ∃ (k : Nat) (rv : Value), kv = .int .i64 (k : Int) ∧ k ≤ L.length ∧ Hid (Ly w wr D Z LK FK RW NM B C P g apex fa (.slice p L.length cap) (.slice p' L.length c') rv S ((ord.take k).map (rAt L)) ord L.length (2 * k) (rowsF U k))) (fun kv _ => L.length - (intOf kv).toNat)
   case atStart => exact ⟨0, .slice none 0 0, rfl, Nat.zero_le _, H0⟩
   case round =>
    clear H0
    obtain ⟨k, rv, rfl, hk3, HY⟩ := hrel
    by_cases hlt3 : k < L.length
    ·have HI := hide' (HIx.out k hlt3)
     have HG := hide' (HSG.out _ HI.out)
     have hcell := HY.out.nb.cell (k := k) (by omega)
     have HU1 := hide' (HUk.out k hlt3)
     have HT1 := hide' (HTk.out k hlt3)
     have HT0 := hide' (HTl.out k hk3)
     obtain ⟨i, hix⟩ : ∃ i, ix ord k = i := ⟨_, rfl⟩
     rw [hix] at hcell HI HG HU1 HT1
     clear hix
     have hin := HI.out
     obtain ⟨gs, os, hps, hgs, s0, s1, s2⟩ := (ss_own HY.out.sown) i (by omega)
     rw [seAt_get (by omega)] at s0 s1 s2
     obtain ⟨gr, or', hpr, hgr, r0, r1, r2, r3, r4⟩ := HAT.out i hin
     rw [rAt_get hin] at r0 r1 r2 r3 r4
     subst hps hpr
     have hbl := HY.out.bl
     have q0 := (hbl.cell (p := ⟨gr, or' + i * 5, none⟩) hgr).trans r0
     have q1 := (hbl.cell (p := ⟨gr, or' + i * 5 + 1, none⟩) hgr).trans r1
     have q2 := (hbl.cell (p := ⟨gr, or' + i * 5 + 2, none⟩) hgr).trans r2
     have q3 := (hbl.cell (p := ⟨gr, or' + i * 5 + 3, none⟩) hgr).trans r3
     have q4 := (hbl.cell (p := ⟨gr, or' + i * 5 + 4, none⟩) hgr).trans r4
     have hgr3 : gr < wr.heap.size := Nat.lt_of_lt_of_le hgr hbl.size
     clear r0 r1 r2 r3 r4 hbl
     obtain ⟨rr, hrr⟩ : ∃ rr, rAt L i = rr := ⟨_, rfl⟩
     rw [hrr] at q0 q1 q2 q3 q4 HT1
     clear hrr
     obtain ⟨s, hs⟩ : ∃ s, seAt S i = s := ⟨_, rfl⟩
     rw [hs] at s0 s1 s2 HG HU1
     clear hs
     obtain ⟨o, tt, c, l, d⟩ := rr
     obtain ⟨so, st, sd⟩ := s
     simp only at q0 q1 q2 q3 q4 s0 s1 s2
     have hi1 : (0 : Int) ≤ (i : Int) := by omega
     have hi2 : (i : Int) < (L.length : Int) := by omega
     have p0 : wr.cell? ⟨P, 0, none⟩ = some (.pointer (some ⟨D, 0, none⟩)) := HY.out.px.cell rfl
     have d3 : wr.cell? ⟨D, 3, none⟩ = some (.slice (some ⟨gs, os, none⟩) L.length c') := HY.out.dx.cell rfl
     obtain ⟨wb, hwb⟩ : ∃ wb, wr.alloc (.cells #[.string so, .int .i64 st, .string sd] 83) = wb := ⟨_, rfl⟩
     have hBb : Below wr.heap.size wr wb := hwb ▸ (Below.refl _ wr).alloc (Nat.le_refl _) _
     have HXb : Hid (Bx wb wr.heap.size #[.string so, .int .i64 st, .string sd] 83) := hwb ▸ World.alloc_heap_new wr _
     have HYb := hide' (HY.out.step hBb)
     have HBb := hide' hBb
     have b0 : wb.cell? ⟨P, 0, none⟩ = some (.pointer (some ⟨D, 0, none⟩)) := HYb.out.px.cell rfl
     have b1 : wb.cell? ⟨D, 0, none⟩ = some (.pointer (some ⟨Z, 0, none⟩)) := HYb.out.dx.cell rfl
     have b2 : wb.cell? ⟨D, 2, none⟩ = some (.slice (some ⟨gr, or', none⟩) L.length cap) := HYb.out.dx.cell rfl
     have b3 : wb.cell? ⟨Z, 1, none⟩ = some rv := HYb.out.zx.cell rfl
     have t0 := (hBb.cell (p := ⟨gr, or' + i * 5, none⟩) hgr3).trans q0
     have t1 := (hBb.cell (p := ⟨gr, or' + i * 5 + 1, none⟩) hgr3).trans q1
     have t2 := (hBb.cell (p := ⟨gr, or' + i * 5 + 2, none⟩) hgr3).trans q2
     have t3 := (hBb.cell (p := ⟨gr, or' + i * 5 + 3, none⟩) hgr3).trans q3
     have t4 := (hBb.cell (p := ⟨gr, or' + i * 5 + 4, none⟩) hgr3).trans q4
     clear hBb
     go_wp2_with fail
     clear p0 d3 s0 s1 s2 q0 q1 q2 q3 q4 hcell
     have hwl : wr.heap.size < wb.heap.size := HXb.out.lt
     have agb : rv.ownBlock ≠ some wr.heap.size := ownBlk_ne HY.out.rown
     have hn1 : k + 1 ≤ maxLen := by unfold maxLen; omega
     have hb1 : (k + 1) * 56 ≤ 140737488355328 := by omega
     have szb : C ≤ wb.heap.size := HYb.out.sz
     have HYa : Hid (Ly w (wb.alloc (.cells #[.string o, .int .i64 tt, .int .i64 c, .int .i64 l, .string d] 29)).drew D Z LK FK RW NM B C P g apex fa (.slice (some ⟨gr, or', none⟩) L.length cap) (.slice (some ⟨gs, os, none⟩) L.length c') rv S ((ord.take k).map (rAt L)) ord L.length (2 * k) (rowsF U k)) := HYb.out.step (((Below.refl _ wb).alloc (Nat.le_refl _) _).drew)
     have HRow : Hid ((wb.alloc (.cells #[.string o, .int .i64 tt, .int .i64 c, .int .i64 l, .string d] 29)).drew.ownsRow C 29 5 rv k (rce5 ((ord.take k).map (rAt L)))) := by
      have := HYa.out.rown
      rw [HT0.out] at this
      exact this
     have HK5 : Hid (∀ (w5 : World) (v : Value), (wb.alloc (.cells #[.string o, .int .i64 tt, .int .i64 c, .int .i64 l, .string d] 29)).drew.grownBy w5 rv.ownBlock → w5.ownsRow C 29 5 v (k + 1) (rce5 ((ord.take k).map (rAt L)) ++ [.string o, .int .i64 tt, .int .i64 c, .int .i64 l, .string d]) → Ly w (w5.setCell ⟨Z, 1, none⟩ v) D Z LK FK RW NM B C P g apex fa (.slice (some ⟨gr, or', none⟩) L.length cap) (.slice (some ⟨gs, os, none⟩) L.length c') v S ((ord.take (k + 1)).map (rAt L)) ord L.length (2 * k) (rowsF U k) ∧ Bx (w5.setCell ⟨Z, 1, none⟩ v) wr.heap.size #[.string so, .int .i64 st, .string sd] 83 ∧ w5.cell? ⟨Z, 1, none⟩ = some rv ∧ w5.frozen? ⟨Z, 1, none⟩ = false ∧ w5.cell? ⟨P, 0, none⟩ = some (.pointer (some ⟨D, 0, none⟩)) ∧ w5.cell? ⟨D, 0, none⟩ = some (.pointer (some ⟨Z, 0, none⟩))) := fun w5 v hgr how => by
      have hlt := HYa.out.lt
      have hfar : ∀ X, X < C → rv.ownBlock ≠ some X := fun X hX e => by have := own_ge HYa.out.rown e; omega
      have how' : w5.ownsRow C 29 5 v (((ord.take k).map (rAt L)).length + 1) (rce5 ((ord.take k).map (rAt L)) ++ ren5 ⟨o, tt, c, l, d⟩) := by rw [HT0.out]; exact how
      have hz := HYa.out.zx.grown hgr (hfar _ (by omega))
      have hx : Bx (wb.alloc (.cells #[.string o, .int .i64 tt, .int .i64 c, .int .i64 l, .string d] 29)).drew wr.heap.size #[.string so, .int .i64 st, .string sd] 83 := HXb.out.below (((Below.refl _ wb).alloc (Nat.le_refl _) _).drew) hwl
      have hCr : C ≤ wr.heap.size := HY.out.sz
      refine ⟨?_, (hx.grown hgr agb).grown (grown_set w5 Z 1 v) (by simp; omega), hz.cell rfl, hz.free 1, (HYa.out.px.grown hgr (hfar _ (by omega))).cell rfl, (HYa.out.dx.grown hgr (hfar _ (by omega))).cell rfl⟩
      rw [HT1.out]
      exact HYa.out.app ⟨o, tt, c, l, d⟩ hgr how'
     have e0 : (wb.alloc (.cells #[.string o, .int .i64 tt, .int .i64 c, .int .i64 l, .string d] 29)).drew.cell? ⟨P, 0, none⟩ = some (.pointer (some ⟨D, 0, none⟩)) := HYa.out.px.cell rfl
     have e1 : (wb.alloc (.cells #[.string o, .int .i64 tt, .int .i64 c, .int .i64 l, .string d] 29)).drew.cell? ⟨D, 0, none⟩ = some (.pointer (some ⟨Z, 0, none⟩)) := HYa.out.dx.cell rfl
     have e3 : (wb.alloc (.cells #[.string o, .int .i64 tt, .int .i64 c, .int .i64 l, .string d] 29)).drew.cell? ⟨Z, 1, none⟩ = some rv := HYa.out.zx.cell rfl
     have hgrw : gr < w.heap.size := hgr
     have HQb : Hid (∀ V, Below wb.heap.size wb V → V.cell? ⟨P, 0, none⟩ = some (.pointer (some ⟨D, 0, none⟩)) ∧ V.cell? ⟨D, 0, none⟩ = some (.pointer (some ⟨Z, 0, none⟩)) ∧ V.cell? ⟨D, 2, none⟩ = some (.slice (some ⟨gr, or', none⟩) L.length cap) ∧ V.cell? ⟨gr, or' + i * 5, none⟩ = some (.string o) ∧ V.cell? ⟨gr, or' + i * 5 + 1, none⟩ = some (.int .i64 tt) ∧ V.cell? ⟨gr, or' + i * 5 + 2, none⟩ = some (.int .i64 c) ∧ V.cell? ⟨gr, or' + i * 5 + 3, none⟩ = some (.int .i64 l) ∧ V.cell? ⟨gr, or' + i * 5 + 4, none⟩ = some (.string d)) := fun V hV => by
      have hy := HYb.out.step hV
      have hgb : gr < wb.heap.size := by omega
      refine ⟨hy.px.cell rfl, hy.dx.cell rfl, hy.dx.cell rfl, ?_, ?_, ?_, ?_, ?_⟩
      ·exact (hV.cell (p := ⟨gr, or' + i * 5, none⟩) hgb).trans t0
      ·exact (hV.cell (p := ⟨gr, or' + i * 5 + 1, none⟩) hgb).trans t1
      ·exact (hV.cell (p := ⟨gr, or' + i * 5 + 2, none⟩) hgb).trans t2
      ·exact (hV.cell (p := ⟨gr, or' + i * 5 + 3, none⟩) hgb).trans t3
      ·exact (hV.cell (p := ⟨gr, or' + i * 5 + 4, none⟩) hgb).trans t4
     have HQ0 : Hid (wb.drew.cell? ⟨P, 0, none⟩ = some (.pointer (some ⟨D, 0, none⟩)) ∧ wb.drew.cell? ⟨D, 0, none⟩ = some (.pointer (some ⟨Z, 0, none⟩)) ∧ wb.drew.cell? ⟨D, 2, none⟩ = some (.slice (some ⟨gr, or', none⟩) L.length cap) ∧ wb.drew.cell? ⟨gr, or' + i * 5, none⟩ = some (.string o) ∧ wb.drew.cell? ⟨gr, or' + i * 5 + 1, none⟩ = some (.int .i64 tt) ∧ wb.drew.cell? ⟨gr, or' + i * 5 + 2, none⟩ = some (.int .i64 c) ∧ wb.drew.cell? ⟨gr, or' + i * 5 + 3, none⟩ = some (.int .i64 l) ∧ wb.drew.cell? ⟨gr, or' + i * 5 + 4, none⟩ = some (.string d)) := HQb.out _ (Below.refl _ wb).drew
     have HQ4 : Hid ((wb.alloc (.cells #[.string o, .int .i64 tt, .int .i64 c, .int .i64 l, .string d] 29)).drew.cell? ⟨P, 0, none⟩ = some (.pointer (some ⟨D, 0, none⟩)) ∧ (wb.alloc (.cells #[.string o, .int .i64 tt, .int .i64 c, .int .i64 l, .string d] 29)).drew.cell? ⟨D, 0, none⟩ = some (.pointer (some ⟨Z, 0, none⟩)) ∧ (wb.alloc (.cells #[.string o, .int .i64 tt, .int .i64 c, .int .i64 l, .string d] 29)).drew.cell? ⟨D, 2, none⟩ = some (.slice (some ⟨gr, or', none⟩) L.length cap) ∧ (wb.alloc (.cells #[.string o, .int .i64 tt, .int .i64 c, .int .i64 l, .string d] 29)).drew.cell? ⟨gr, or' + i * 5, none⟩ = some (.string o) ∧ (wb.alloc (.cells #[.string o, .int .i64 tt, .int .i64 c, .int .i64 l, .string d] 29)).drew.cell? ⟨gr, or' + i * 5 + 1, none⟩ = some (.int .i64 tt) ∧ (wb.alloc (.cells #[.string o, .int .i64 tt, .int .i64 c, .int .i64 l, .string d] 29)).drew.cell? ⟨gr, or' + i * 5 + 2, none⟩ = some (.int .i64 c) ∧ (wb.alloc (.cells #[.string o, .int .i64 tt, .int .i64 c, .int .i64 l, .string d] 29)).drew.cell? ⟨gr, or' + i * 5 + 3, none⟩ = some (.int .i64 l) ∧ (wb.alloc (.cells #[.string o, .int .i64 tt, .int .i64 c, .int .i64 l, .string d] 29)).drew.cell? ⟨gr, or' + i * 5 + 4, none⟩ = some (.string d)) := HQb.out _ (((Below.refl _ wb).alloc (Nat.le_refl _) _).drew)
     have HQ5 : Hid (∀ w5 : World, (wb.alloc (.cells #[.string o, .int .i64 tt, .int .i64 c, .int .i64 l, .string d] 29)).drew.grownBy w5 rv.ownBlock → w5.cell? ⟨P, 0, none⟩ = some (.pointer (some ⟨D, 0, none⟩)) ∧ w5.cell? ⟨D, 0, none⟩ = some (.pointer (some ⟨Z, 0, none⟩)) ∧ w5.cell? ⟨D, 2, none⟩ = some (.slice (some ⟨gr, or', none⟩) L.length cap) ∧ w5.cell? ⟨gr, or' + i * 5, none⟩ = some (.string o) ∧ w5.cell? ⟨gr, or' + i * 5 + 1, none⟩ = some (.int .i64 tt) ∧ w5.cell? ⟨gr, or' + i * 5 + 2, none⟩ = some (.int .i64 c) ∧ w5.cell? ⟨gr, or' + i * 5 + 3, none⟩ = some (.int .i64 l) ∧ w5.cell? ⟨gr, or' + i * 5 + 4, none⟩ = some (.string d)) := fun w5 hgr => by
      have hlt := HYa.out.lt
      have hfar : ∀ X, X < C → rv.ownBlock ≠ some X := fun X hX e => by have := own_ge HYa.out.rown e; omega
      have hge := HYa.out.ge
      have hgw : gr < C := by omega
      have hbk : w5.heap[gr]? = (wb.alloc (.cells #[.string o, .int .i64 tt, .int .i64 c, .int .i64 l, .string d] 29)).drew.heap[gr]? := hgr.block gr (by have := HYa.out.sz; omega) (fun e => hfar gr hgw e.symm)
      obtain ⟨h0, h1, h2, h3, h4, h5, h6, h7⟩ := HQ4.out
      refine ⟨(HYa.out.px.grown hgr (hfar _ (by omega))).cell rfl, (HYa.out.dx.grown hgr (hfar _ (by omega))).cell rfl, (HYa.out.dx.grown hgr (hfar _ (by omega))).cell rfl, ?_, ?_, ?_, ?_, ?_⟩
      ·unfold World.cell? at h3 ⊢; rw [hbk]; exact h3
      ·unfold World.cell? at h4 ⊢; rw [hbk]; exact h4
      ·unfold World.cell? at h5 ⊢; rw [hbk]; exact h5
      ·unfold World.cell? at h6 ⊢; rw [hbk]; exact h6
      ·unfold World.cell? at h7 ⊢; rw [hbk]; exact h7
     have HQ6 : Hid (∀ (w5 : World) (v : Value), (wb.alloc (.cells #[.string o, .int .i64 tt, .int .i64 c, .int .i64 l, .string d] 29)).drew.grownBy w5 rv.ownBlock → (w5.setCell ⟨Z, 1, none⟩ v).cell? ⟨P, 0, none⟩ = some (.pointer (some ⟨D, 0, none⟩)) ∧ (w5.setCell ⟨Z, 1, none⟩ v).cell? ⟨D, 0, none⟩ = some (.pointer (some ⟨Z, 0, none⟩)) ∧ (w5.setCell ⟨Z, 1, none⟩ v).cell? ⟨D, 2, none⟩ = some (.slice (some ⟨gr, or', none⟩) L.length cap) ∧ (w5.setCell ⟨Z, 1, none⟩ v).cell? ⟨gr, or' + i * 5, none⟩ = some (.string o) ∧ (w5.setCell ⟨Z, 1, none⟩ v).cell? ⟨gr, or' + i * 5 + 1, none⟩ = some (.int .i64 tt) ∧ (w5.setCell ⟨Z, 1, none⟩ v).cell? ⟨gr, or' + i * 5 + 2, none⟩ = some (.int .i64 c) ∧ (w5.setCell ⟨Z, 1, none⟩ v).cell? ⟨gr, or' + i * 5 + 3, none⟩ = some (.int .i64 l) ∧ (w5.setCell ⟨Z, 1, none⟩ v).cell? ⟨gr, or' + i * 5 + 4, none⟩ = some (.string d)) := fun w5 v hgr => by
      obtain ⟨h0, h1, h2, h3, h4, h5, h6, h7⟩ := HQ5.out w5 hgr
      have hlt := HYa.out.lt
      have hge := HYa.out.ge
      have hzd := HYa.out.ne.2.2.2.2.2.2
      have hzg : Z ≠ gr := by omega
      refine ⟨?_, ?_, ?_, ?_, ?_, ?_, ?_, ?_⟩
      ·rw [cell_far _ _ _ _ (by show Z ≠ P; omega)]; exact h0
      ·rw [cell_far _ _ _ _ (by show Z ≠ D; exact fun e => hzd e.symm)]; exact h1
      ·rw [cell_far _ _ _ _ (by show Z ≠ D; exact fun e => hzd e.symm)]; exact h2
      ·rw [cell_far _ _ _ _ (by show Z ≠ gr; exact hzg)]; exact h3
      ·rw [cell_far _ _ _ _ (by show Z ≠ gr; exact hzg)]; exact h4
      ·rw [cell_far _ _ _ _ (by show Z ≠ gr; exact hzg)]; exact h5
      ·rw [cell_far _ _ _ _ (by show Z ≠ gr; exact hzg)]; exact h6
      ·rw [cell_far _ _ _ _ (by show Z ≠ gr; exact hzg)]; exact h7
     go_cut [] from 40 to 61 (fun wc => ∃ v, Hid (Ly w wc D Z LK FK RW NM B C P g apex fa (.slice (some ⟨gr, or', none⟩) L.length cap) (.slice (some ⟨gs, os, none⟩) L.length c') v S ((ord.take (k + 1)).map (rAt L)) ord L.length (2 * k) (rowsF U k)) ∧ Hid (Bx wc wr.heap.size #[.string so, .int .i64 st, .string sd] 83))
     case first =>
      refine wp_region_held_drew (S := (fun V => V.cell? ⟨P, 0, none⟩ = some (.pointer (some ⟨D, 0, none⟩)) ∧ V.cell? ⟨D, 0, none⟩ = some (.pointer (some ⟨Z, 0, none⟩)) ∧ V.cell? ⟨D, 2, none⟩ = some (.slice (some ⟨gr, or', none⟩) L.length cap) ∧ V.cell? ⟨gr, or' + i * 5, none⟩ = some (.string o) ∧ V.cell? ⟨gr, or' + i * 5 + 1, none⟩ = some (.int .i64 tt) ∧ V.cell? ⟨gr, or' + i * 5 + 2, none⟩ = some (.int .i64 c) ∧ V.cell? ⟨gr, or' + i * 5 + 3, none⟩ = some (.int .i64 l) ∧ V.cell? ⟨gr, or' + i * 5 + 4, none⟩ = some (.string d))) (by kernel_rfl) ?_ (fun hHeld => ?_)
      ·(try dsimp only); go_keep
      refine takeD 0 (some 40) (.pointer (some ⟨D, 0, none⟩)) rfl rfl (by kernel_rfl) (by kernel_rfl) (by kernel_rfl) (fun _ _ _ h => h) (Or.inl ⟨by rfl, ?_⟩) (by assumption) ?_
      ·intro w hSw; (try dsimp only at hSw); go_simp <;> (intros; omega)
      simp only [Act.put, List.setIfInBounds_toArray, List.set_cons_zero, List.set_cons_succ]
      refine takeD 1 (some 41) (.pointer (some ⟨D, 0, none⟩)) rfl rfl (by kernel_rfl) (by kernel_rfl) (by kernel_rfl) (fun _ _ _ h => h) (Or.inl ⟨by rfl, ?_⟩) (by assumption) ?_
      ·intro w hSw; (try dsimp only at hSw); go_simp <;> (intros; omega)
      simp only [Act.put, List.setIfInBounds_toArray, List.set_cons_zero, List.set_cons_succ]
      refine takeD 2 (some 42) (.pointer (some ⟨D, 0, none⟩)) rfl rfl (by kernel_rfl) (by kernel_rfl) (by kernel_rfl) (fun _ _ _ h => h) (Or.inl ⟨by rfl, ?_⟩) (by assumption) ?_
      ·intro w hSw; (try dsimp only at hSw); go_simp <;> (intros; omega)
      simp only [Act.put, List.setIfInBounds_toArray, List.set_cons_zero, List.set_cons_succ]
      refine takeD 3 (some 43) (.pointer (some ⟨Z, 0, none⟩)) rfl rfl (by kernel_rfl) (by kernel_rfl) (by kernel_rfl) (fun _ _ _ h => h) (Or.inl ⟨by rfl, ?_⟩) (by assumption) ?_
      ·intro w hSw; (try dsimp only at hSw); go_simp <;> (intros; omega)
      simp only [Act.put, List.setIfInBounds_toArray, List.set_cons_zero, List.set_cons_succ]
      refine takeD 4 (some 44) (.pointer (some ⟨D, 0, none⟩)) rfl rfl (by kernel_rfl) (by kernel_rfl) (by kernel_rfl) (fun _ _ _ h => h) (Or.inl ⟨by rfl, ?_⟩) (by assumption) ?_
      ·intro w hSw; (try dsimp only at hSw); go_simp <;> (intros; omega)
      simp only [Act.put, List.setIfInBounds_toArray, List.set_cons_zero, List.set_cons_succ]
      refine takeD 5 (some 45) (.pointer (some ⟨D, 0, none⟩)) rfl rfl (by kernel_rfl) (by kernel_rfl) (by kernel_rfl) (fun _ _ _ h => h) (Or.inl ⟨by rfl, ?_⟩) (by assumption) ?_
      ·intro w hSw; (try dsimp only at hSw); go_simp <;> (intros; omega)
      simp only [Act.put, List.setIfInBounds_toArray, List.set_cons_zero, List.set_cons_succ]
      refine takeD 6 (some 46) (.pointer (some ⟨D, 0, none⟩)) rfl rfl (by kernel_rfl) (by kernel_rfl) (by kernel_rfl) (fun _ _ _ h => h) (Or.inl ⟨by rfl, ?_⟩) (by assumption) ?_
      ·intro w hSw; (try dsimp only at hSw); go_simp <;> (intros; omega)
      simp only [Act.put, List.setIfInBounds_toArray, List.set_cons_zero, List.set_cons_succ]
      refine takeD 7 (some 47) (.pointer (some ⟨Z, 0, none⟩)) rfl rfl (by kernel_rfl) (by kernel_rfl) (by kernel_rfl) (fun _ _ _ h => h) (Or.inl ⟨by rfl, ?_⟩) (by assumption) ?_
      ·intro w hSw; (try dsimp only at hSw); go_simp <;> (intros; omega)
      simp only [Act.put, List.setIfInBounds_toArray, List.set_cons_zero, List.set_cons_succ]
      refine takeD 8 (some 48) (.pointer (some ⟨Z, 0, none⟩)) rfl rfl (by kernel_rfl) (by kernel_rfl) (by kernel_rfl) (fun _ _ _ h => h) (Or.inl ⟨by rfl, ?_⟩) (by assumption) ?_
      ·intro w hSw; (try dsimp only at hSw); go_simp <;> (intros; omega)
      simp only [Act.put, List.setIfInBounds_toArray, List.set_cons_zero, List.set_cons_succ]
      refine takeD 9 (some 49) (.pointer (some ⟨Z, 1, none⟩)) rfl rfl (by kernel_rfl) (by kernel_rfl) (by kernel_rfl) (fun _ _ _ h => h) (Or.inl ⟨by rfl, ?_⟩) (by assumption) ?_
      ·intro w hSw; (try dsimp only at hSw); go_simp <;> (intros; omega)
      simp only [Act.put, List.setIfInBounds_toArray, List.set_cons_zero, List.set_cons_succ]
      refine takeD 11 (some 51) (.pointer (some ⟨D, 0, none⟩)) rfl rfl (by kernel_rfl) (by kernel_rfl) (by kernel_rfl) (fun _ _ _ h => h) (Or.inl ⟨by rfl, ?_⟩) (by assumption) ?_
      ·intro w hSw; (try dsimp only at hSw); go_simp <;> (intros; omega)
      simp only [Act.put, List.setIfInBounds_toArray, List.set_cons_zero, List.set_cons_succ]
      refine takeD 12 (some 52) (.pointer (some ⟨D, 0, none⟩)) rfl rfl (by kernel_rfl) (by kernel_rfl) (by kernel_rfl) (fun _ _ _ h => h) (Or.inl ⟨by rfl, ?_⟩) (by assumption) ?_
      ·intro w hSw; (try dsimp only at hSw); go_simp <;> (intros; omega)
      simp only [Act.put, List.setIfInBounds_toArray, List.set_cons_zero, List.set_cons_succ]
      refine takeD 13 (some 53) (.pointer (some ⟨D, 2, none⟩)) rfl rfl (by kernel_rfl) (by kernel_rfl) (by kernel_rfl) (fun _ _ _ h => h) (Or.inl ⟨by rfl, ?_⟩) (by assumption) ?_
      ·intro w hSw; (try dsimp only at hSw); go_simp <;> (intros; omega)
      simp only [Act.put, List.setIfInBounds_toArray, List.set_cons_zero, List.set_cons_succ]
      refine takeD 14 (some 54) (.slice (some ⟨gr, or', none⟩) L.length cap) rfl rfl (by kernel_rfl) (by kernel_rfl) (by kernel_rfl) (fun _ _ _ h => h) (Or.inl ⟨by rfl, ?_⟩) (by assumption) ?_
      ·intro w hSw; (try dsimp only at hSw); go_simp <;> (intros; omega)
      simp only [Act.put, List.setIfInBounds_toArray, List.set_cons_zero, List.set_cons_succ]
      refine takeD 15 (some 55) (.int .i64 (i : Int)) rfl rfl (by kernel_rfl) (by kernel_rfl) (by kernel_rfl) (fun _ _ _ h => h) (Or.inl ⟨by rfl, ?_⟩) (by assumption) ?_
      ·intro w hSw; (try dsimp only at hSw); go_simp <;> (intros; omega)
      simp only [Act.put, List.setIfInBounds_toArray, List.set_cons_zero, List.set_cons_succ]
      refine takeD 16 (some 56) (.pointer (some ⟨gr, or' + i * 5, none⟩)) rfl rfl (by kernel_rfl) (by kernel_rfl) (by kernel_rfl) (fun _ _ _ h => h) (Or.inl ⟨by rfl, ?_⟩) (by assumption) ?_
      ·intro w hSw; (try dsimp only at hSw); go_simp <;> (intros; omega)
      simp only [Act.put, List.setIfInBounds_toArray, List.set_cons_zero, List.set_cons_succ]
      refine takeD 17 (some 57) (.agg #[.string o, .int .i64 tt, .int .i64 c, .int .i64 l, .string d]) rfl rfl (by kernel_rfl) (by kernel_rfl) (by kernel_rfl) (fun _ _ _ h => h) (Or.inl ⟨by rfl, ?_⟩) (by assumption) ?_
      ·intro w hSw; (try dsimp only at hSw); go_simp <;> (intros; omega)
      simp only [Act.put, List.setIfInBounds_toArray, List.set_cons_zero, List.set_cons_succ]
      refine wpAnyH_ready (rs := [10, 18]) (by kernel_rfl) (by simp) ?_
      refine AllReadyH.cons rfl (fun K hK => ?_) (AllReadyH.cons rfl (fun K hK => ?_) AllReadyH.nil)
      ·go_simp
       go_wp2_with fail
       refine hK.out _ _ HQ0.out (fun hHeld => ?_)
       clear hK K
       try simp only [Act.put, List.setIfInBounds_toArray, List.set_cons_zero, List.set_cons_succ]
       refine wpAnyH_ready (rs := [18]) (by kernel_rfl) (by simp) ?_
       refine AllReadyH.cons rfl (fun K hK => ?_) AllReadyH.nil
       go_simp
       go_wp2_with fail
       refine hK.out _ _ HQ4.out (fun hHeld => ?_)
       clear hK K
       try simp only [Act.put, List.setIfInBounds_toArray, List.set_cons_zero, List.set_cons_succ]
       refine wpAnyH_ready (rs := [19]) (by kernel_rfl) (by simp) ?_
       refine AllReadyH.cons rfl (fun K hK => ?_) AllReadyH.nil
       refine step_append_lies _ (by rfl) _ _ _ (by rfl) C 29 i5 _ 5 56 Tryz.underlying22 hi5 hy0 hy1 hy2 rfl (by omega) rv k (rce5 ((ord.take k).map (rAt L))) (by rfl) HRow.out ⟨wb.heap.size, 0, none⟩ 1 1 [.string o, .int .i64 tt, .int .i64 c, .int .i64 l, .string d] (by rfl) (by rfl) (World.news_of_block (cs := #[.string o, .int .i64 tt, .int .i64 c, .int .i64 l, .string d]) (t := 29) (fr := (0, 0)) (heap_alloc_new wb _)) (by simp [Value.oneCell']) (by omega) hn1 hb1 (by simp; omega) (wb.heap.size + 1) (by simp) ?_
       intro gg cap2 w5 hown5 hgrow hat5 hlt5
       obtain ⟨y1, y2, y3, y4, y5, y6⟩ := HK5.out w5 _ hgrow hown5
       have Y1 := hide' y1
       have Y2 := hide' y2
       clear y1 y2
       refine hK.out _ _ (HQ5.out _ hgrow) (fun hHeld => ?_)
       clear hK K
       try simp only [Act.put, List.setIfInBounds_toArray, List.set_cons_zero, List.set_cons_succ]
       refine takeD 20 (some 60) (.pointer (some ⟨Z, 0, none⟩)) rfl rfl (by kernel_rfl) (by kernel_rfl) (by kernel_rfl) (fun _ _ _ h => h) (Or.inl ⟨by rfl, ?_⟩) (by assumption) ?_
       ·intro w hSw; (try dsimp only at hSw); go_simp <;> (intros; omega)
       simp only [Act.put, List.setIfInBounds_toArray, List.set_cons_zero, List.set_cons_succ]
       refine takeD 21 (some 61) (.pointer (some ⟨Z, 1, none⟩)) rfl rfl (by kernel_rfl) (by kernel_rfl) (by kernel_rfl) (fun _ _ _ h => h) (Or.inl ⟨by rfl, ?_⟩) (by assumption) ?_
       ·intro w hSw; (try dsimp only at hSw); go_simp <;> (intros; omega)
       simp only [Act.put, List.setIfInBounds_toArray, List.set_cons_zero, List.set_cons_succ]
       refine wpAnyH_ready (rs := [22]) (by kernel_rfl) (by simp) ?_
       refine AllReadyH.cons rfl (fun K hK => ?_) AllReadyH.nil
       go_simp
       go_wp2_with fail
       refine hK.out _ _ (HQ6.out _ _ hgrow) (fun hHeld => ?_)
       clear hK K
       try simp only [Act.put, List.setIfInBounds_toArray, List.set_cons_zero, List.set_cons_succ]
       refine wpAnyH_done (by kernel_rfl) ?_ _
       go_wp2_with fail
       go_meet
       exact ⟨_, Y1, Y2⟩
      ·go_simp
       go_wp2_with fail
       refine hK.out _ _ HQ4.out (fun hHeld => ?_)
       clear hK K
       try simp only [Act.put, List.setIfInBounds_toArray, List.set_cons_zero, List.set_cons_succ]
       refine wpAnyH_ready (rs := [10]) (by kernel_rfl) (by simp) ?_
       refine AllReadyH.cons rfl (fun K hK => ?_) AllReadyH.nil
       go_simp
       go_wp2_with fail
       refine hK.out _ _ HQ4.out (fun hHeld => ?_)
       clear hK K
       try simp only [Act.put, List.setIfInBounds_toArray, List.set_cons_zero, List.set_cons_succ]
       refine wpAnyH_ready (rs := [19]) (by kernel_rfl) (by simp) ?_
       refine AllReadyH.cons rfl (fun K hK => ?_) AllReadyH.nil
       refine step_append_lies _ (by rfl) _ _ _ (by rfl) C 29 i5 _ 5 56 Tryz.underlying22 hi5 hy0 hy1 hy2 rfl (by omega) rv k (rce5 ((ord.take k).map (rAt L))) (by rfl) HRow.out ⟨wb.heap.size, 0, none⟩ 1 1 [.string o, .int .i64 tt, .int .i64 c, .int .i64 l, .string d] (by rfl) (by rfl) (World.news_of_block (cs := #[.string o, .int .i64 tt, .int .i64 c, .int .i64 l, .string d]) (t := 29) (fr := (0, 0)) (heap_alloc_new wb _)) (by simp [Value.oneCell']) (by omega) hn1 hb1 (by simp; omega) (wb.heap.size + 1) (by simp) ?_
       intro gg cap2 w5 hown5 hgrow hat5 hlt5
       obtain ⟨y1, y2, y3, y4, y5, y6⟩ := HK5.out w5 _ hgrow hown5
       have Y1 := hide' y1
       have Y2 := hide' y2
       clear y1 y2
       refine hK.out _ _ (HQ5.out _ hgrow) (fun hHeld => ?_)
       clear hK K
       try simp only [Act.put, List.setIfInBounds_toArray, List.set_cons_zero, List.set_cons_succ]
       refine takeD 20 (some 60) (.pointer (some ⟨Z, 0, none⟩)) rfl rfl (by kernel_rfl) (by kernel_rfl) (by kernel_rfl) (fun _ _ _ h => h) (Or.inl ⟨by rfl, ?_⟩) (by assumption) ?_
       ·intro w hSw; (try dsimp only at hSw); go_simp <;> (intros; omega)
       simp only [Act.put, List.setIfInBounds_toArray, List.set_cons_zero, List.set_cons_succ]
       refine takeD 21 (some 61) (.pointer (some ⟨Z, 1, none⟩)) rfl rfl (by kernel_rfl) (by kernel_rfl) (by kernel_rfl) (fun _ _ _ h => h) (Or.inl ⟨by rfl, ?_⟩) (by assumption) ?_
       ·intro w hSw; (try dsimp only at hSw); go_simp <;> (intros; omega)
       simp only [Act.put, List.setIfInBounds_toArray, List.set_cons_zero, List.set_cons_succ]
       refine wpAnyH_ready (rs := [22]) (by kernel_rfl) (by simp) ?_
       refine AllReadyH.cons rfl (fun K hK => ?_) AllReadyH.nil
       go_simp
       go_wp2_with fail
       refine hK.out _ _ (HQ6.out _ _ hgrow) (fun hHeld => ?_)
       clear hK K
       try simp only [Act.put, List.setIfInBounds_toArray, List.set_cons_zero, List.set_cons_succ]
       refine wpAnyH_done (by kernel_rfl) ?_ _
       go_wp2_with fail
       go_meet
       exact ⟨_, Y1, Y2⟩
     case rest =>
      clear HQb HQ0 HQ4 HQ5 HQ6 HK5 HYa HRow HYb HXb HBb e0 e1 e3 b0 b1 b2 b3 t0 t1 t2 t3 t4 agb
      obtain ⟨v6, HY6, HX6⟩ := hcut
      have hCr : C ≤ wr.heap.size := HY.out.sz
      have HGp : Hid (plG (so, st)) := plG_of HG.out
      have HG0 : Hid (plG (so, 0)) := ⟨HG.out.1, WalkArith.wf_i64 (by omega)⟩
      have HE1 : Hid (∀ V, Ly w V D Z LK FK RW NM B C P g apex fa (.slice (some ⟨gr, or', none⟩) L.length cap) (.slice (some ⟨gs, os, none⟩) L.length c') v6 S ((ord.take (k + 1)).map (rAt L)) ord L.length (2 * k) (rowsF U k) → Bx V wr.heap.size #[.string so, .int .i64 st, .string sd] 83 → Calls Tryz.prog 73 #[.pointer (some ⟨Z, 0, none⟩), .agg #[.string so, .int .i64 st], .int .i64 (k : Int)] V fun r w' => r = .returned (.tuple #[]) ∧ Ly w w' D Z LK FK RW NM B C P g apex fa (.slice (some ⟨gr, or', none⟩) L.length cap) (.slice (some ⟨gs, os, none⟩) L.length c') v6 S ((ord.take (k + 1)).map (rAt L)) ord L.length (2 * k + 1) (updR (rowsF U k) (so, st) k) ∧ Bx w' wr.heap.size #[.string so, .int .i64 st, .string sd] 83) := fun V hy hx => by
       have hlt := hy.lt
       refine (extend_any Z RW NM apex v6 (so, st) k (2 * k) (rowsF U k) (updR (rowsF U k) (so, st) k) V hy.zx hy.rw' HGp.out (by unfold maxLen; omega) (by omega) (updR_same _ _ _) (fun z _ hz => updR_other _ _ _ z hz)).mono ?_
       rintro r w' ⟨rfl, hm, hg⟩
       exact ⟨rfl, hy.row hg hm, hx.grown hg (by simp; omega)⟩
      have HE2 : Hid (∀ V, Ly w V D Z LK FK RW NM B C P g apex fa (.slice (some ⟨gr, or', none⟩) L.length cap) (.slice (some ⟨gs, os, none⟩) L.length c') v6 S ((ord.take (k + 1)).map (rAt L)) ord L.length (2 * k + 1) (updR (rowsF U k) (so, st) k) → Bx V wr.heap.size #[.string so, .int .i64 st, .string sd] 83 → Calls Tryz.prog 73 #[.pointer (some ⟨Z, 0, none⟩), .agg #[.string so, .int .i64 0], .int .i64 (k : Int)] V fun r w' => r = .returned (.tuple #[]) ∧ Ly w w' D Z LK FK RW NM B C P g apex fa (.slice (some ⟨gr, or', none⟩) L.length cap) (.slice (some ⟨gs, os, none⟩) L.length c') v6 S ((ord.take (k + 1)).map (rAt L)) ord L.length (2 * k + 1 + 1) (updR (updR (rowsF U k) (so, st) k) (so, 0) k) ∧ Bx w' wr.heap.size #[.string so, .int .i64 st, .string sd] 83) := fun V hy hx => by
       have hlt := hy.lt
       refine (extend_any Z RW NM apex v6 (so, 0) k (2 * k + 1) (updR (rowsF U k) (so, st) k) (updR (updR (rowsF U k) (so, st) k) (so, 0) k) V hy.zx hy.rw' HG0.out (by unfold maxLen; omega) (by omega) (updR_same _ _ _) (fun z _ hz => updR_other _ _ _ z hz)).mono ?_
       rintro r w' ⟨rfl, hm, hg⟩
       exact ⟨rfl, hy.row hg hm, hx.grown hg (by simp; omega)⟩
      have HPl : Hid (∀ V, Calls Tryz.prog 39 #[.agg #[.string so, .int .i64 st, .string sd]] V fun r w' => r = .returned (.agg #[.string so, .int .i64 st]) ∧ Below V.heap.size V w') := fun V => placeOf_any (so, st, sd) V
      have HS13 : Hid (∀ V, Below wc.heap.size wc V → V.cell? ⟨P, 0, none⟩ = some (.pointer (some ⟨D, 0, none⟩)) ∧ V.cell? ⟨D, 0, none⟩ = some (.pointer (some ⟨Z, 0, none⟩)) ∧ V.cell? ⟨wr.heap.size, 0, none⟩ = some (.string so) ∧ V.cell? ⟨wr.heap.size, 1, none⟩ = some (.int .i64 st) ∧ V.cell? ⟨wr.heap.size, 2, none⟩ = some (.string sd)) := fun V hV =>
       ⟨(HY6.out.step hV).px.cell rfl, (HY6.out.step hV).dx.cell rfl, (HX6.out.below hV HX6.out.lt).cell rfl, (HX6.out.below hV HX6.out.lt).cell rfl, (HX6.out.below hV HX6.out.lt).cell rfl⟩
      obtain ⟨a0, a1, a2, a3, a4⟩ := HS13.out wc (Below.refl _ _)
      have hB := (Below.refl wc.heap.size wc).drew
      have HEq : Hid (rowsF U (k + 1) = updR (updR (rowsF U k) (so, st) k) (so, 0) k) := by
       unfold Hid
       show updR (updR (rowsF U k) (plOf (seAt U k)) k) ((seAt U k).1, 0) k = _
       rw [HU1.out]
       rfl
      clear HG HGp HG0 HU1 HSG HUk HTk HIx HT1 HT0 HI HTl
      go_wp2_with fail
      go_region_held3 (fun V => V.cell? ⟨P, 0, none⟩ = some (.pointer (some ⟨D, 0, none⟩)) ∧ V.cell? ⟨D, 0, none⟩ = some (.pointer (some ⟨Z, 0, none⟩)) ∧ V.cell? ⟨wr.heap.size, 0, none⟩ = some (.string so) ∧ V.cell? ⟨wr.heap.size, 1, none⟩ = some (.int .i64 st) ∧ V.cell? ⟨wr.heap.size, 2, none⟩ = some (.string sd)) (first | go_keep | (with_reducible exact HS13.out _ hB) | exact ⟨Y9.out.px.cell rfl, Y9.out.dx.cell rfl, X9.out.cell rfl, X9.out.cell rfl, X9.out.cell rfl⟩)
       (first
        | (go_at_call 39; refine (HPl.out _).mono ?_; rintro r w8 ⟨rfl, hB8⟩; have hB := below_any hB hB8 (by first | exact .inl rfl | exact .inr rfl) hB.size; clear hB8)
        | (go_at_call 73; refine (HE1.out _ (HY6.out.step hB) (HX6.out.below hB HX6.out.lt)).mono ?_; rintro r w9 ⟨rfl, hy9, hx9⟩; have Y9 := hide' hy9; have X9 := hide' hx9; clear hy9 hx9))
      all_goals
       clear a0 a1 a2 a3 a4
       have a0 : w9.cell? ⟨P, 0, none⟩ = some (.pointer (some ⟨D, 0, none⟩)) := Y9.out.px.cell rfl
       have a1 : w9.cell? ⟨D, 0, none⟩ = some (.pointer (some ⟨Z, 0, none⟩)) := Y9.out.dx.cell rfl
       have a2 : w9.cell? ⟨wr.heap.size, 0, none⟩ = some (.string so) := X9.out.cell rfl
       have a3 : w9.cell? ⟨wr.heap.size, 1, none⟩ = some (.int .i64 st) := X9.out.cell rfl
       have a4 : w9.cell? ⟨wr.heap.size, 2, none⟩ = some (.string sd) := X9.out.cell rfl
       go_wp2_with fail
       go_region_held3 (fun V => V.cell? ⟨P, 0, none⟩ = some (.pointer (some ⟨D, 0, none⟩)) ∧ V.cell? ⟨D, 0, none⟩ = some (.pointer (some ⟨Z, 0, none⟩)) ∧ V.cell? ⟨wr.heap.size, 0, none⟩ = some (.string so) ∧ V.cell? ⟨wr.heap.size, 1, none⟩ = some (.int .i64 st) ∧ V.cell? ⟨wr.heap.size, 2, none⟩ = some (.string sd)) (first | go_keep | exact ⟨Y10.out.px.cell rfl, Y10.out.dx.cell rfl, X10.out.cell rfl, X10.out.cell rfl, X10.out.cell rfl⟩)
        ((go_at_call 73; refine (HE2.out _ (Y9.out.step (Below.refl _ w9).drew) (X9.out.below (Below.refl _ w9).drew X9.out.lt)).mono ?_; rintro r w10 ⟨rfl, hy10, hx10⟩; have Y10 := hide' hy10; have X10 := hide' hx10; clear hy10 hx10))
       all_goals
        go_wp2_with fail
        refine ⟨⟨k + 1, v6, by go_num, by omega, ?_⟩, by simp [intOf]; omega⟩
        have hfin := Y10.out
        rw [← HEq.out, show 2 * k + 1 + 1 = 2 * (k + 1) by omega] at hfin
        exact hfin
    ·obtain rfl : k = L.length := by omega
     go_wp2_with fail
     go_end0
     refine ⟨rfl, ord, rv, C, P, g, 2 * L.length, ?_, HPm.out, ?_⟩
     ·have hfin := HY.out
      rw [List.take_of_length_le (by omega), ← HUU.out, ← HSS.out] at hfin
      exact hfin
     ·have hfin := HSd.out
      rw [List.length_range] at hfin
      rw [HSS.out]; exact hfin
end Go.Proofs.YtoabnpdoicbpiaaGreat
