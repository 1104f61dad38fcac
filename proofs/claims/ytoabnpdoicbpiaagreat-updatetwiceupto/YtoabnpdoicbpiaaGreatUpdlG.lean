import Derived.Test.YtoabnpdoicbpiaaGreatUpddG
import Derived.Test.YtoabnpdoicbpiaaGreatUpdhG
import Derived.Test.YtoabnpdoicbpiaaGreatZqlG
namespace Go.Proofs.YtoabnpdoicbpiaaGreat
set_option linter.unusedVariables false
set_option linter.unusedSimpArgs false
open Go.RowKit Go.Shelf Go.Maps Go.Proofs.YtoabnpdoicbpiaaGreat.Nm Go.Proofs.YtoabnpdoicbpiaaGreat.Zs
theorem Dra.setSoa {w w' : World} {base D M : Nat} {apex : ByteArray} {soa r : Rn} {O : List Uo} (h : Dra w base D M apex soa O) (hB : Bx w' D (duC apex r M) 72) (hg : w.grownBy w' (some D)) : Dra w' base D M apex r O :=
 ⟨hB, h.om.kept hg (fun e => map_block h.om h.bx (Option.some.inj e)), fun u hu => (h.tm u hu).kept hg (fun e => map_block (h.tm u hu) h.bx (Option.some.inj e)), fun u hu s hs => (h.sb u hu s hs).apartU h.bx (by decide) hg, fun u hu s hs => (h.rm u hu s hs).kept hg (fun e => map_block (h.rm u hu s hs) h.bx (Option.some.inj e)), h.sep, h.d0, h.m0, h.ml⟩
def setD (w : World) (D : Nat) (r : Rn) : World := ((((w.setCell ⟨D, 1, none⟩ (.string r.o)).setCell ⟨D, 2, none⟩ (.int .i64 r.t)).setCell ⟨D, 3, none⟩ (.int .i64 r.c)).setCell ⟨D, 4, none⟩ (.int .i64 r.l)).setCell ⟨D, 5, none⟩ (.string r.d)
theorem setD_grown (w : World) (D : Nat) (r : Rn) : w.grownBy (setD w D r) (some D) :=
 grown_trans (grown_trans (grown_trans (grown_trans (grown_set _ _ _ _) (grown_set _ _ _ _)) (grown_set _ _ _ _)) (grown_set _ _ _ _)) (grown_set _ _ _ _)
theorem Dra.putSoa {w : World} {base D M : Nat} {apex : ByteArray} {soa : Rn} {O : List Uo} (h : Dra w base D M apex soa O) (r : Rn) : Dra (setD w D r) base D M apex r O := by
 refine h.setSoa ?_ (setD_grown _ _ _)
 have h1 := ((((h.bx.set 1 (.string r.o)).set 2 (.int .i64 r.t)).set 3 (.int .i64 r.c)).set 4 (.int .i64 r.l)).set 5 (.string r.d)
 simpa [setD, duC] using h1
theorem Dra.cellsD {w : World} {base D M : Nat} {apex : ByteArray} {soa : Rn} {O : List Uo} (h : Dra w base D M apex soa O) : w.cell? ⟨D, 1, none⟩ = some (.string soa.o) ∧ w.cell? ⟨D, 2, none⟩ = some (.int .i64 soa.t) ∧ w.cell? ⟨D, 3, none⟩ = some (.int .i64 soa.c) ∧ w.cell? ⟨D, 4, none⟩ = some (.int .i64 soa.l) ∧ w.cell? ⟨D, 5, none⟩ = some (.string soa.d) ∧ w.frozen? ⟨D, 1, none⟩ = false ∧ w.frozen? ⟨D, 2, none⟩ = false ∧ w.frozen? ⟨D, 3, none⟩ = false ∧ w.frozen? ⟨D, 4, none⟩ = false ∧ w.frozen? ⟨D, 5, none⟩ = false :=
 ⟨h.bx.cell rfl, h.bx.cell rfl, h.bx.cell rfl, h.bx.cell rfl, h.bx.cell rfl, h.bx.free _, h.bx.free _, h.bx.free _, h.bx.free _, h.bx.free _⟩
theorem rk_draft {w w' : World} {base D M : Nat} {apex : ByteArray} {soa : Rn} {O : List Uo} (h : Dra w base D M apex soa O) (hg : w.grownBy w' (some D)) : RkU w w' := fun g cs hb => hb.apartU h.bx (by decide) hg
def noS (T : List Rn) : List Rn := T.filter fun r => !decide (r.t = 6)
def zRu : Rn := ⟨⟨#[]⟩, 0, 0, 0, ⟨#[]⟩⟩
def soaL (T : List Rn) : Rn := (T.find? fun r => decide (r.t = 6)).getD zRu
section
variable {n : Nat} {W : World} {apex : ByteArray} {L : List Rn} {ord : List Nat} {Z RW NM C m cnt : Nat} {p : Option Addr} {cp : Nat} {f : ByteArray → Option Nat}
theorem Zon.pairs (h : Zon n W apex L ord Z RW NM C m cnt p cp f) : ((ord.map (rAt L)).map senS).Nodup ∧ (ord.map (rAt L)).Pairwise (fun x y => ¬ (x.t = 6 ∧ y.t = 6)) ∧ (∀ x ∈ ord.map (rAt L), x.t = 6 → eqB x.o apex = true) ∧ ∃ x ∈ ord.map (rAt L), x.t = 6 := by
 have H := h.laid
 have h4 : fstI (brkB apex L 4) L.length = -2 := h.rule (i := 0) (by show 0 < 8; omega)
 have h5 : fstI (brkB apex L 5) L.length = -2 := h.rule (i := 1) (by show 1 < 8; omega)
 have h6 : (if hasB L apex 6 = true then (-2 : Int) else -1) = -2 := h.rule (i := 2) (by show 2 < 8; omega)
 have k4 := keep4.1 (fst_inv h4)
 obtain ⟨k5, k5b⟩ := keep5.1 (fst_inv h5)
 have hh : hasB L apex 6 = true := by
  cases hb : hasB L apex 6 with
  | true => rfl
  | false => rw [hb] at h6; simp at h6
 refine ⟨?_, ?_, fun x hx => k5b x (H.perm.mem_iff.1 hx), ?_⟩
 ·rw [(H.perm.map senS).nodup_iff]
  refine List.pairwise_map.2 (List.Pairwise.imp_of_mem (fun {a b} ha hb hne e => ?_) k4)
  have na := (ok_facts (H.ok a ha)).1
  have nb := (ok_facts (H.ok b hb)).1
  unfold senS at e
  injection e with e1 e2
  injection e2 with e2 e3
  have : eqB a.o b.o = true := by
   rw [eq_dec na]
   exact decide_eq_true (by rw [e1])
  unfold alikeB at hne
  rw [this, e2] at hne
  simp [← e3, e2] at hne
 ·exact (H.perm.pairwise_iff (fun {x y} h q => h ⟨q.2, q.1⟩)).2 k5
 ·unfold hasB at hh
  rw [List.any_eq_true] at hh
  obtain ⟨x, hx, hx2⟩ := hh
  rw [Bool.and_eq_true] at hx2
  exact ⟨x, H.perm.mem_iff.2 hx, of_decide_eq_true hx2.1⟩
end
theorem noS_snoc (A : List Rn) (r : Rn) : noS (A ++ [r]) = if r.t = 6 then noS A else noS A ++ [r] := by
 unfold noS
 rw [List.filter_append]
 by_cases h : r.t = 6
 ·simp [h]
 ·simp [h]
theorem soaL_snoc {A : List Rn} {r : Rn} (h : ∀ x ∈ A, ¬ (x.t = 6 ∧ r.t = 6)) : soaL (A ++ [r]) = if r.t = 6 then r else soaL A := by
 unfold soaL
 rw [List.find?_append]
 by_cases hr : r.t = 6
 ·have : A.find? (fun r => decide (r.t = 6)) = none := List.find?_eq_none.2 (fun x hx q => h x hx ⟨of_decide_eq_true q, hr⟩)
  rw [this]
  simp [hr]
 ·simp [hr]
theorem put_new {A : List Rn} {r : Rn} (h : ((A ++ [r]).map senS).Nodup) : putU (noS A) r = noS A ++ [r] := by
 unfold putU
 rw [outK_none (fun x hx e => ?_)]
 rw [List.map_append] at h
 exact (List.nodup_append.1 h).2.2 (senS x) (List.mem_map.2 ⟨x, (List.mem_filter.1 hx).1, rfl⟩) (senS r) (by simp) e
end Go.Proofs.YtoabnpdoicbpiaaGreat
namespace Go.Proofs.YtoabnpdoicbpiaaGreat
set_option linter.unusedVariables false
set_option linter.unusedSimpArgs false
open Go.RowKit Go.Shelf Go.Maps Go.Proofs.YtoabnpdoicbpiaaGreat.Nm Go.Proofs.YtoabnpdoicbpiaaGreat.Zs
def ndE (w : World) (apex : ByteArray) (T : List Rn) (e : Ending) (w' : World) : Prop := (∃ D M O, e = .returned (.pointer (some ⟨D, 0, none⟩)) ∧ Dra w' w.heap.size D M (foldB apex) (soaL T) O ∧ Flu O (noS T) ∧ CntU O T.length T.length T.length) ∧ Below w.heap.size w w'
theorem rn_keys {r : Rn} (h : zonR r = true) : r.o.size ≤ maxLen ∧ r.d.size ≤ maxLen ∧ usG (foldB r.o) ∧ usG (foldD r.t r.d) ∧ uiG r.t := by
 obtain ⟨_, _, _, _, _, h1, h2, h3, h4, h5, h6⟩ := ok_facts h
 have hm : (65535 : Nat) ≤ maxLen := by unfold maxLen; omega
 exact ⟨by omega, by omega, by unfold usG; omega, by unfold usG; omega, WalkArith.wf_i64 (by omega)⟩
section
variable {n : Nat} {W : World} {apex : ByteArray} {L : List Rn} {ord : List Nat} {Z RW NM C m cnt : Nat} {p : Option Addr} {cp : Nat} {f : ByteArray → Option Nat}
set_option maxRecDepth 100000 in
set_option maxHeartbeats 8000000 in
theorem newDraftU_any (h : Zon n W apex L ord Z RW NM C m cnt p cp f) :
  Calls Tryz.prog 24 #[.pointer (some ⟨Z, 0, none⟩)] W (ndE W apex (ord.map (rAt L))) := by
 have hT := h.laid.tlen
 have hpos := h.pos
 obtain ⟨hs1, hs2, _, _⟩ := h.pairs
 have hok := h.laid.tok
 have hfew := h.few
 have h255 : apex.size ≤ 255 := ((isN_iff _).1 h.laid.na).1
 have HAp := hide' (zApex_any h)
 have HFo := hide' (fun V => fold_any apex V (by unfold maxLen; omega))
 have HRe : Hid (∀ V, Below W.heap.size W V → Calls Tryz.prog 6 #[.pointer (some ⟨Z, 0, none⟩)] V fun r w' => ∃ g c rest, r = .returned (.slice (some ⟨g, 0, none⟩) L.length c) ∧ Rb w' g (ord.map (rAt L)) rest ∧ Below V.heap.size V w') := fun V hV => by
  refine (zRecords_any (h.step hV)).mono ?_
  rintro r w' ⟨⟨v, rfl, ho⟩, hb⟩
  obtain ⟨g, c, rfl⟩ := own_some ho hpos
  obtain ⟨rest, hr, _⟩ := rb_ownM ho
  exact ⟨g, c, rest, rfl, hr, hb⟩
 obtain ⟨T, hTe⟩ : ∃ T, ord.map (rAt L) = T := ⟨_, rfl⟩
 rw [hTe] at hT hs1 hs2 hok HRe ⊢
 obtain ⟨N, hN⟩ : ∃ N, L.length = N := ⟨_, rfl⟩
 rw [hN] at hT hpos hfew HRe
 have HS1 := hide' hs1
 have HS2 := hide' hs2
 have HOk := hide' hok
 have HTl := hide' hT
 obtain ⟨F, hF⟩ : ∃ F, foldB apex = F := ⟨_, rfl⟩
 have HFe := hide' hF
 rw [hF] at HFo
 clear h hs1 hs2 hok hTe hN hT h255 hF
 go_enter Tryz.func24, Tryz.ntmps24
 go_wp2_with (first
  | (go_at_call 30; refine HAp.out.mono ?_; rintro e1 w1 ⟨rfl, hw1⟩; have hw1' := hw1.symm; subst hw1')
  | (go_at_call 37; refine (HFo.out _).mono ?_; rintro e2 w2 ⟨rfl, hB2⟩; have HB2 := hide' hB2; clear hB2; obtain ⟨wm, hwm⟩ : ∃ v, w2.alloc (.map #[] 0) = v := ⟨_, rfl⟩; have mkq : (Instr.makeMap 70 none).run Tryz.prog w2 = .ok (.map (some w2.heap.size)) wm := (by rw [← hwm]; simp [Instr.makeMap, run_underlying Tryz.underlying70, newObj]; rfl); obtain ⟨wd, hwd⟩ : ∃ v, wm.alloc (.cells #[.string F, .string ⟨#[]⟩, .int .i64 0, .int .i64 0, .int .i64 0, .string ⟨#[]⟩, .map (some w2.heap.size)] 72) = v := ⟨_, rfl⟩)
  | (go_at_call 6; have HBd : Hid (Below W.heap.size W wd) := hwd ▸ ((hwm ▸ HB2.out.alloc HB2.out.size _ : Below W.heap.size W wm).alloc (hwm ▸ (Nat.le_trans HB2.out.size (World.grownBy_alloc w2 _ none).size)) _); refine (HRe.out wd HBd.out).mono ?_; rintro e3 w3 ⟨g, c, rest, rfl, hRb, hB3⟩; have HRb := hide' hRb; have HB3 := hide' hB3; clear hRb hB3))
 have HMt : Hid (Omap wm w2.heap.size []) := hwm ▸ Lmap.made w2
 have HBw2 : Hid (W.heap.size ≤ w2.heap.size) := HB2.out.size
 have HBwm : Hid (W.heap.size ≤ wm.heap.size) := Nat.le_trans HB2.out.size (hwm ▸ (World.grownBy_alloc w2 _ none).size)
 have HDd : Hid (Dra wd W.heap.size wm.heap.size w2.heap.size F zRu []) := by
  have hg : wm.grownBy wd none := hwd ▸ World.grownBy_alloc wm _ none
  refine ⟨hwd ▸ World.alloc_heap_new wm _, HMt.out.kept hg (by simp), (fun u hu => by cases hu), (fun u hu => by cases hu), (fun u hu => by cases hu), ⟨(fun u hu => by cases hu), (fun u hu => by cases hu), (fun u hu => by cases hu), (fun u hu => by cases hu), (fun u hu => by cases hu), (fun u hu => by cases hu)⟩, HBwm.out, HBw2.out, (fun u hu => by cases hu)⟩
 have HD3 := hide' (HDd.out.idle (grown_below HB3.out none))
 have HB03 : Hid (Below W.heap.size W w3) := bstep HBd.out HB3.out HBd.out.size
 clear mkq hwd hwm
 obtain ⟨D, hD⟩ : ∃ D, wm.heap.size = D := ⟨_, rfl⟩
 obtain ⟨M, hM⟩ : ∃ M, w2.heap.size = M := ⟨_, rfl⟩
 rw [hD, hM] at HD3
 have HDe := hide' hD
 rw [hD]
 clear hD hM
 go_loopw [15] (fun v wr => ∃ (k : Nat) (O : List Uo), v = .int .i64 (k : Int) ∧ k ≤ N ∧ Hid (Dra wr W.heap.size D M F (soaL (T.take k)) O) ∧ Hid (Flu O (noS (T.take k))) ∧ Hid (CntU O k k k) ∧ Hid (Rb wr g T rest) ∧ Hid (Below W.heap.size W wr)) (fun v _ => N - (intOf v).toNat)
 case atStart => exact ⟨0, [], rfl, Nat.zero_le _, HD3.out, Flu.nil, ⟨by simp, fun u hu => by cases hu⟩, HRb.out, HB03.out⟩
 case round =>
  obtain ⟨k, O, rfl, hk, HDk, HFk, HCk, HRk, HBk⟩ := hrel
  by_cases hlt : k < N
  ·have hkT : k < T.length := by rw [HTl.out]; exact hlt
   obtain ⟨e0, e1, e2, e3, e4⟩ := HRk.out.cells hkT
   have HTk : Hid (T.take (k + 1) = T.take k ++ [T[k]]) := List.take_succ_eq_append_getElem hkT
   have HMe : Hid (T[k] ∈ T) := List.getElem_mem hkT
   obtain ⟨x, hx⟩ : ∃ x, T[k] = x := ⟨_, rfl⟩
   rw [hx] at e0 e1 e2 e3 e4 HTk HMe
   have HNd : Hid (((T.take k ++ [x]).map senS).Nodup) := by
    rw [← HTk.out]
    exact HS1.out.sublist ((List.take_sublist _ _).map _)
   have HSo : Hid (∀ y ∈ T.take k, ¬ (y.t = 6 ∧ x.t = 6)) := fun y hy => by
    have := HS2.out.sublist (List.take_sublist (k + 1) T)
    rw [HTk.out] at this
    exact (List.pairwise_append.1 this).2.2 y hy x (by simp)
   have HZx : Hid (zonR x = true) := HOk.out x HMe.out
   obtain ⟨o, t, c', l, d⟩ := x
   simp only at e0 e1 e2 e3 e4
   clear hx hkT
   obtain ⟨wa, hwa⟩ : ∃ v, wr.alloc (.cells #[.string o, .int .i64 t, .int .i64 c', .int .i64 l, .string d] 29) = v := ⟨_, rfl⟩
   have HGa : Hid (wr.grownBy wa none) := hwa ▸ World.grownBy_alloc wr _ none
   have HXa : Hid (Bx wa wr.heap.size #[.string o, .int .i64 t, .int .i64 c', .int .i64 l, .string d] 29) := hwa ▸ World.alloc_heap_new wr _
   have HDa := hide' (HDk.out.idle HGa.out)
   have HBa : Hid (Below W.heap.size W wa) := HBk.out.grown HGa.out HBk.out.size (fun k e => by cases e)
   have HRa : Hid (Rb wa g T rest) := HRk.out.grown HGa.out (by simp)
   obtain ⟨v0, v1, v2, v3, v4⟩ := bx5U HXa.out
   by_cases h6 : t = 6
   ·subst h6
    obtain ⟨d1, d2, d3, d4, d5, f1, f2, f3, f4, f5⟩ := HDa.out.cellsD
    have HDz := hide' (HDa.out.putSoa ⟨o, 6, c', l, d⟩)
    have HGz := hide' (setD_grown wa D ⟨o, 6, c', l, d⟩)
    have HRz : Hid (Rb (setD wa D ⟨o, 6, c', l, d⟩) g T rest) := rk_draft HDa.out HGz.out g _ HRa.out
    have HBz : Hid (Below W.heap.size W (setD wa D ⟨o, 6, c', l, d⟩)) := HBa.out.grown HGz.out HBa.out.size (fun q e => by injection e with e; rw [← e]; exact HDa.out.d0)
    unfold setD at HDz HRz HBz
    go_wp2_with fail
    go_roundw
    case rel => exact ⟨k + 1, O, by go_num, by omega, (by rw [HTk.out, soaL_snoc HSo.out, if_pos rfl]; exact HDz.out), (by rw [HTk.out, noS_snoc, if_pos rfl]; exact HFk.out), HCk.out.mono (by omega) (by omega) (by omega), HRz.out, HBz.out⟩
    case measure => simp [intOf]; omega
   ·have b6 : (t == 6) = false := by rw [beq_eq_false_iff_ne]; exact h6
    have HPu : Hid (Calls Tryz.prog 58 #[.pointer (some ⟨D, 0, none⟩), .agg #[.string o, .int .i64 t, .int .i64 c', .int .i64 l, .string d]] wa (putUE wa W.heap.size D M F (soaL (T.take k)) O (noS (T.take k)) ⟨o, t, c', l, d⟩)) := by
     obtain ⟨k1, k2, k3, k4, k5⟩ := rn_keys HZx.out
     exact putU_any HDa.out HFk.out HCk.out (by unfold maxLen; omega) HBa.out.size k1 k2 k3 k4 k5
    have HT6 : Hid (soaL (T.take (k + 1)) = soaL (T.take k)) := by unfold Hid; rw [HTk.out, soaL_snoc HSo.out, if_neg h6]
    have HN6 : Hid (noS (T.take (k + 1)) = putU (noS (T.take k)) ⟨o, t, c', l, d⟩) := by unfold Hid; rw [HTk.out, noS_snoc, if_neg h6, put_new HNd.out]
    go_wp2_with (go_at_call 58; refine HPu.out.mono ?_; rintro e4 w4 ⟨rfl, ⟨O', hD4, hF4, hC4⟩, hB4, hR4⟩; have HD4 := hide' hD4; have HF4 := hide' hF4; have HC4 := hide' (hC4 k HCk.out); have HB4 := hide' hB4; have HR4 := hide' (hR4 g _ HRa.out); clear hD4 hF4 hC4 hB4 hR4)
    go_roundw
    case rel => exact ⟨k + 1, O', by go_num, by omega, (by rw [HT6.out]; exact HD4.out), (by rw [HN6.out]; exact HF4.out), HC4.out, HR4.out, HBa.out.trans HB4.out⟩
    case measure => simp [intOf]; omega
  ·have hkN : k = N := by omega
   have HTf : Hid (T.take k = T) := by unfold Hid; rw [hkN, ← HTl.out, List.take_length]
   have HKT : Hid (k = T.length) := by unfold Hid; rw [hkN, HTl.out]
   have HD9 : Hid (Dra wr W.heap.size D M (foldB apex) (soaL T) O) := by rw [HFe.out]; have := HDk.out; rwa [HTf.out] at this
   have HF9 : Hid (Flu O (noS T)) := by have := HFk.out; rwa [HTf.out] at this
   clear hkN
   go_wp2_with fail
   go_ret
   exact ⟨⟨D, M, O, rfl, HD9.out, HF9.out, HKT.out ▸ HCk.out⟩, HBk.out⟩
end
end Go.Proofs.YtoabnpdoicbpiaaGreat
