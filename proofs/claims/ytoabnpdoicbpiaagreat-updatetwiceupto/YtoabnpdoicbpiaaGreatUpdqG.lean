import Derived.Test.YtoabnpdoicbpiaaGreatUpdkG
import Derived.Test.YtoabnpdoicbpiaaGreatZrdG
import Derived.Test.YtoabnpdoicbpiaaGreatZrcG
import Derived.Test.YtoabnpdoicbpiaaGreatZr3G
import Derived.Test.YtoabnpdoicbpiaaGreatOw0G
import Derived.Test.YtoabnpdoicbpiaaGreatFr0G
import Derived.ProofKit
import Derived.OpenShut
import Derived.JoinedCond
import Derived.ShutString
import Derived.ChangeOld
import Derived.ChangeSlices
import Derived.Carry
namespace Go.Proofs.YtoabnpdoicbpiaaGreat
set_option linter.unusedVariables false
set_option linter.unusedSimpArgs false
open Go.RowKit Go.Shelf Go.Maps Go.Proofs.YtoabnpdoicbpiaaGreat.Nm Go.Proofs.YtoabnpdoicbpiaaGreat.Zs Go.Proofs.YtoabnpdoicbpiaaGreat.Ud
def apE (W : World) (apex top : ByteArray) (Z : Nat) (T A : List Rn) (r : Ending) (w' : World) : Prop := Below W.heap.size W w' ∧
  ((ckU top apex A ≠ 0 ∧ r = .returned (.tuple #[.pointer none, .int .i64 (ckU top apex A)])) ∨
   (ckU top apex A = 0 ∧ T.Perm (soaL T :: listU (A.foldl addU (noS T))) ∧ r = .returned (.tuple #[.pointer (some ⟨Z, 0, none⟩), .int .i64 0])) ∨
   (ckU top apex A = 0 ∧ ¬ T.Perm (soaL T :: listU (A.foldl addU (noS T))) ∧ ∃ N, N.Perm (soaN (soaL T) :: listU (A.foldl addU (noS T))) ∧
     (((mkC apex N).2 ≠ 0 ∧ r = .returned (.tuple #[.pointer none, .int .i64 5])) ∨
      ∃ ord Z2 RW NM C m cnt p cp f, r = .returned (.tuple #[.pointer (some ⟨Z2, 0, none⟩), .int .i64 0]) ∧ Zon W.heap.size w' apex N ord Z2 RW NM C m cnt p cp f)))
theorem wsD_size {d : ByteArray} {s : Nat} (h : 20 ≤ d.size) : (wsD d s).size = d.size := by
 unfold wsD
 rw [ByteArray.size_append, ByteArray.size_append, size_extract' _ _ _ (by omega), size_extract' _ _ _ (by omega), nB_size]
 omega
section
variable {n : Nat} {W : World} {apex : ByteArray} {L : List Rn} {ord : List Nat} {Z RW NM C m cnt : Nat} {p : Option Addr} {cp : Nat} {f : ByteArray → Option Nat}
theorem Zon.lower {n' : Nat} (h : Zon n W apex L ord Z RW NM C m cnt p cp f) (hn : n' ≤ n) : Zon n' W apex L ord Z RW NM C m cnt p cp f := by
 obtain ⟨g1, g2, g3, g4⟩ := h.ge
 exact ⟨h.zx, own_baseZ h.own (by omega), h.rows, h.nm, h.dm, h.laid, h.few, h.kept, ⟨by omega, by omega, by omega, by omega⟩, h.nq, h.nu⟩
theorem nw_cases {N : List Rn} {w w' : World} {r : Ending} {a c : Int} (h : NwE apex N w r w') (hp : mkC apex N = (a, c)) : (c = 0 ∧ ∃ ord Z RW NM C m cnt p cp f, r = .returned (.tuple #[.pointer (some ⟨Z, 0, none⟩), .int .i64 0, .int .i64 0]) ∧ Hid (Zon w.heap.size w' apex N ord Z RW NM C m cnt p cp f)) ∨ (Hid (c ≠ 0) ∧ (c != 0) = true ∧ r = .returned (.tuple #[.pointer none, .int .i64 a, .int .i64 c])) := by
 by_cases h0 : c = 0
 ·obtain ⟨ord, Z, RW, NM, C, m, cnt, p, cp, f, h1, h2⟩ := h.yes (by rw [hp]; exact h0)
  exact .inl ⟨h0, ord, Z, RW, NM, C, m, cnt, p, cp, f, h1, h2⟩
 ·have h1 := h.no (by rw [hp]; exact h0)
  rw [hp] at h1
  exact .inr ⟨h0, by simpa using h0, h1⟩
theorem Zon.soaIn (h : Zon n W apex L ord Z RW NM C m cnt p cp f) : soaL (ord.map (rAt L)) ∈ ord.map (rAt L) ∧ (soaL (ord.map (rAt L))).t = 6 ∧ serL (ord.map (rAt L)) = (serN (soaL (ord.map (rAt L))).d : Int) := by
 obtain ⟨_, _, _, x, hx, hxt⟩ := h.pairs
 unfold soaL serL
 cases hf : (ord.map (rAt L)).find? (fun r => decide (r.t = 6)) with
 | none =>
  rw [List.find?_eq_none] at hf
  exact absurd (by simp [hxt]) (hf x hx)
 | some r =>
  have h2 := List.find?_some hf
  exact ⟨List.mem_of_find?_eq_some hf, by simpa using h2, rfl⟩
set_option maxRecDepth 100000 in
set_option maxHeartbeats 16000000 in
theorem applyU_any {g : Nat} {top : ByteArray} {a0 : Option Addr} {A : List Rn} (ac : Nat) (h : Zon n W apex L ord Z RW NM C m cnt p cp f) (hm : AskU W g top a0 A) (h56 : ∀ r ∈ A, r.t ≠ 5 ∧ r.t ≠ 6) :
  Calls Tryz.prog 8 #[.pointer (some ⟨Z, 0, none⟩), .agg #[.int .i64 9, .bool false, .int .i64 5, .bool false, .bool false, .bool false, .bool false, .bool false, .bool false, .int .i64 0, .slice (some ⟨g, 0, none⟩) 1 1, .slice none 0 0, .slice a0 A.length ac, .slice none 0 0]] W (apE W apex top Z (ord.map (rAt L)) A) := by
 obtain ⟨wb, hwb⟩ : ∃ v, W.alloc (.cells #[.int .i64 9, .bool false, .int .i64 5, .bool false, .bool false, .bool false, .bool false, .bool false, .bool false, .int .i64 0, .slice (some ⟨g, 0, none⟩) 1 1, .slice none 0 0, .slice a0 A.length ac, .slice none 0 0] 33) = v := ⟨_, rfl⟩
 have HB1 : Hid (Below W.heap.size W wb) := hwb ▸ (Below.refl _ W).alloc (Nat.le_refl _) _
 have HX1 : Hid (Bx wb W.heap.size #[.int .i64 9, .bool false, .int .i64 5, .bool false, .bool false, .bool false, .bool false, .bool false, .bool false, .int .i64 0, .slice (some ⟨g, 0, none⟩) 1 1, .slice none 0 0, .slice a0 A.length ac, .slice none 0 0] 33) := hwb ▸ World.alloc_heap_new W _
 have HZ1 := hide' (h.step HB1.out)
 have HM1 := hide' (hm.step HB1.out)
 have HCk := hide' (checkU_any ac HZ1.out HM1.out)
 obtain ⟨hso1, hso2, hso3⟩ := h.soaIn
 have hfew := h.few
 have hTl := h.laid.tlen
 have hok := h.laid.tok
 have h255 : apex.size ≤ 255 := ((isN_iff _).1 h.laid.na).1
 have HNd : Hid (∀ V, Below wb.heap.size wb V → Calls Tryz.prog 24 #[.pointer (some ⟨Z, 0, none⟩)] V (ndE V apex (ord.map (rAt L)))) := fun V hV => newDraftU_any (HZ1.out.step hV)
 have HDf : Hid (∀ V base D M fa O, Below wb.heap.size wb V → Dra V base D M fa (soaL (ord.map (rAt L))) O → (flatO O).length ≤ 1000000 → (∀ x ∈ soaL (ord.map (rAt L)) :: flatO O, ruG (rk x)) → Calls Tryz.prog 26 #[.pointer (some ⟨D, 0, none⟩), .pointer (some ⟨Z, 0, none⟩)] V fun r w' => (∃ b, r = .returned (.bool b) ∧ (b = false ↔ (ord.map (rAt L)).Perm (soaL (ord.map (rAt L)) :: flatO O))) ∧ Below V.heap.size V w') := fun V base D M fa O hV hD hl hk => differsU_any (HZ1.out.step hV) hD hl hk
 have HSe : Hid (∀ V, Below wb.heap.size wb V → Calls Tryz.prog 21 #[.pointer (some ⟨Z, 0, none⟩)] V fun r w' => r = .returned (.int .i64 (serN (soaL (ord.map (rAt L))).d : Int)) ∧ Below V.heap.size V w') := fun V hV => by
  have := zSerial_any (HZ1.out.step hV)
  rwa [hso3] at this
 have HAp : Hid (∀ V, Below wb.heap.size wb V → Calls Tryz.prog 30 #[.pointer (some ⟨Z, 0, none⟩)] V fun r w' => r = .returned (.string apex) ∧ w' = V) := fun V hV => zApex_any (HZ1.out.step hV)
 obtain ⟨T, hT⟩ : ∃ T, ord.map (rAt L) = T := ⟨_, rfl⟩
 rw [hT] at hso1 hso2 hTl hok HNd HDf HSe ⊢
 obtain ⟨soa, hsoa⟩ : ∃ s, soaL T = s := ⟨_, rfl⟩
 have HSoE : Hid (soaL T = soa) := hsoa
 rw [hsoa] at hso1 hso2 HDf HSe
 have hzs := hok soa hso1
 obtain ⟨_, _, _, h20, h65, _⟩ := soa_parts (d := soa.d) (by have := (ok_facts hzs).2.2.2.2.1; rw [hso2] at this; exact this)
 have HSd := hide' (fun V => dataSerial_any soa V h20 h65)
 have HNx := hide' (fun V => nextSerialU_any (serN soa.d) V (serN_le _))
 have HWs := hide' (fun V => withSerialU_any soa.o soa.d soa.t soa.c soa.l (nxU (serN soa.d)) V h20 h65 (nxU_le (serN_le _)))
 have HGs : Hid (GdU soa) := gd_zon hzs
 have HGn : Hid (GdU (soaN soa)) := ⟨HGs.out.o, by show (wsD soa.d _).size ≤ _; rw [wsD_size h20]; exact HGs.out.d, HGs.out.t, HGs.out.c, HGs.out.l⟩
 have HGz : Hid (∀ e ∈ noS T, GdU e) := fun e he => gd_zon (hok e (List.mem_filter.1 he).1)
 have HLz : Hid ((noS T).length ≤ 2000 ∧ T.length ≤ 2000) := ⟨Nat.le_trans (List.length_filter_le _ _) (by omega), by omega⟩
 have HAs : Hid (ckU top apex A = 0 → A.length ≤ 65535 ∧ ∀ r ∈ A, GdU r) := fun hc => ask_facts hc hm.s
 have HOne : Hid (∀ r ∈ A, r.c = 1) := hm.c
 have H56 := hide' h56
 have HAp255 : Hid (apex.size ≤ 1048576) := by unfold Hid; omega
 have HF : Hid (∀ V : World, Below wb.heap.size wb V → V.cell? ⟨W.heap.size, 12, none⟩ = some (.slice a0 A.length ac) ∧ RsAt V a0 A) := fun V hV => by
  have hX := HX1.out.below hV HX1.out.lt
  exact ⟨hX.cell rfl, (HM1.out.step hV).a⟩
 obtain ⟨c0, c1, c2, c3, c4, c5, c6, c7, c8, c9, c10, c11, c12, c13⟩ := bx14U HX1.out
 obtain ⟨so, st, sc, sl, sd⟩ := soa
 obtain ⟨sn, hsn⟩ : ∃ s, serN sd = s := ⟨_, rfl⟩
 simp only at HSd HNx HWs HSe
 rw [hsn] at HSd HNx HWs HSe
 have HSoN : Hid (soaN ⟨so, st, sc, sl, sd⟩ = ⟨so, st, sc, sl, wsD sd (nxU sn)⟩) := by unfold Hid soaN; simp only; rw [hsn]
 unfold rcV at HSd
 simp only at HSd
 clear h hm h56 hso1 hso2 hso3 hTl hok h255 hT hsoa hzs h20 h65 hfew hsn
 obtain ⟨ck, hck⟩ : ∃ c, ckU top apex A = c := ⟨_, rfl⟩
 have HCe := hide' hck
 rw [hck] at HCk HAs
 by_cases hz : ck = 0
 ·subst hz
  obtain ⟨hA1, hA2⟩ := HAs.out rfl
  have HA1 : Hid (A.length ≤ 65535) := hA1
  have HA2 := hide' hA2
  clear hck hA2
  go_enter Tryz.func8, Tryz.ntmps8
  go_wp2_with (first
   | (go_at_call 23; refine HCk.out.mono ?_; rintro e1 w1 ⟨rfl, hB⟩; have HG1 := hide' hB; clear hB c0 c1 c2 c3 c4 c5 c6 c7 c8 c9 c10 c11 c12 c13)
   | (go_at_call 24; refine (HNd.out _ HG1.out).mono ?_; rintro e2 w2 ⟨⟨D, M, O, rfl, hD, hFl, hCn⟩, hB⟩; have HG2 := hide' (bstep HG1.out hB HG1.out.size); rw [HSoE.out] at hD; have HD2 := hide' hD; have HF2 := hide' hFl; have HC2 := hide' hCn; clear hB hD hFl hCn; obtain ⟨c12, -⟩ := HF.out w2 HG2.out))
  go_loopw [25] (fun v wr => ∃ (k : Nat) (O' : List Uo), v = .int .i64 (k : Int) ∧ k ≤ A.length ∧ Hid (Dra wr w1.heap.size D M (foldB apex) ⟨so, st, sc, sl, sd⟩ O') ∧ Hid (Flu O' ((A.take k).foldl addU (noS T))) ∧ Hid (CntU O' (T.length + k) (T.length + k) (T.length + k)) ∧ Hid (Below wb.heap.size wb wr) ∧ Hid (w1.heap.size ≤ wr.heap.size)) (fun v _ => A.length - (intOf v).toNat)
  case atStart => exact ⟨0, O, rfl, Nat.zero_le _, HD2.out, HF2.out, HC2.out, HG2.out, Nat.le_trans HD2.out.d0 (Nat.le_of_lt HD2.out.bx.lt)⟩
  case round =>
   obtain ⟨k, O', rfl, hk, HDk, HFk, HCk2, HBk, HLk⟩ := hrel
   by_cases hlt : k < A.length
   ·obtain ⟨-, hrs⟩ := HF.out wr HBk.out
    obtain ⟨ga, oa, ha0, hga, e0, e1, e2, e3, e4⟩ := hrs k hlt
    have HTk : Hid (A.take (k + 1) = A.take k ++ [A[k]]) := List.take_succ_eq_append_getElem hlt
    have HMe : Hid (A[k] ∈ A) := List.getElem_mem hlt
    obtain ⟨x, hx⟩ : ∃ x, A[k] = x := ⟨_, rfl⟩
    rw [hx] at e0 e1 e2 e3 e4 HTk HMe
    have hc := HOne.out _ HMe.out
    obtain ⟨h5, h6⟩ := H56.out _ HMe.out
    obtain ⟨q1, q2, q3, q4, q5, -, -⟩ := (HA2.out _ HMe.out).keys
    obtain ⟨o, t, c, l, d⟩ := x
    simp only at e0 e1 e2 e3 e4 hc h5 h6 q1 q2 q3 q4 q5
    subst hc
    subst ha0
    clear hrs hx
    obtain ⟨wa, hwa⟩ : ∃ v, wr.alloc (.cells #[.string o, .int .i64 t, .int .i64 1, .int .i64 l, .string d] 29) = v := ⟨_, rfl⟩
    have HGa : Hid (wr.grownBy wa none) := hwa ▸ World.grownBy_alloc wr _ none
    have HXa : Hid (Bx wa wr.heap.size #[.string o, .int .i64 t, .int .i64 1, .int .i64 l, .string d] 29) := hwa ▸ World.alloc_heap_new wr _
    have HDa := hide' (HDk.out.idle HGa.out)
    have HBa : Hid (Below wb.heap.size wb wa) := HBk.out.grown HGa.out HBk.out.size (fun k e => by cases e)
    have HLa : Hid (w1.heap.size ≤ wa.heap.size) := Nat.le_trans HLk.out HGa.out.size
    obtain ⟨v0, v1, v2, v3, v4⟩ := bx5U HXa.out
    have HChg := hide' (changeU_any (l := l) HDa.out HFk.out HCk2.out (by have := HLz.out.2; have := HA1.out; unfold maxLen; omega) HLa.out q1 q2 q3 q4 q5 h5 h6)
    clear q1 q2 q3 q4 q5 h5 h6
    go_wp2_with (go_at_call 25; refine HChg.out.mono ?_; rintro e5 w5 ⟨rfl, ⟨O5, hD5, hF5, hC5⟩, hB5⟩; have HD5 := hide' hD5; have HF5 := hide' hF5; have HC5 := hide' (hC5 _ HCk2.out); have HB5 := hide' hB5; clear hD5 hF5 hC5 hB5)
    go_roundw
    case rel => exact ⟨k + 1, O5, by go_num, by omega, HD5.out, (by rw [HTk.out, List.foldl_append]; exact HF5.out), HC5.out, HBa.out.trans (HB5.out.1.mono HG1.out.size), Nat.le_trans HLa.out HB5.out.1.size⟩
    case measure => simp [intOf]; omega
   ·have hkA : k = A.length := by omega
    have HFl : Hid (Flu O' (A.foldl addU (noS T))) := by have := HFk.out; rwa [hkA, List.take_length] at this
    clear hkA
    have HFp := hide' (flat_perm HFl.out)
    have HG1e : Hid (∀ e ∈ A.foldl addU (noS T), GdU e) := gd_fold A (noS T) HGz.out HA2.out
    obtain ⟨E1, hE1⟩ : ∃ E, A.foldl addU (noS T) = E := ⟨_, rfl⟩
    have HE1l : Hid (E1.length ≤ 67535) := by
     have h1 := fold_len A (noS T)
     rw [hE1] at h1
     have h2 := HLz.out.1
     have h3 := HA1.out
     unfold Hid
     omega
    have HE1 := hide' hE1
    rw [hE1] at HFp HG1e
    have HFlen : Hid ((flatO O').length ≤ 67535) := by
     have := HFp.out.length_eq
     unfold listU at this
     rw [List.length_map] at this
     have h2 := HE1l.out
     unfold Hid
     omega
    have HGf : Hid (∀ e ∈ flatO O', GdU e) := fun e he => gd_list HG1e.out e (HFp.out.mem_iff.1 he)
    have HDfr := hide' (HDf.out wr _ D M _ O' HBk.out HDk.out (by have := HFlen.out; omega) (fun x hx => by
           rcases List.mem_cons.1 hx with q | q
           ·rw [q]; exact HGs.out.keys.2.2.2.2.2.1
           ·exact (HGf.out x q).keys.2.2.2.2.2.1))
    have HWB : Hid (W.heap.size ≤ wb.heap.size) := HB1.out.size
    clear hE1
    go_wp2_with (go_at_call 26; refine HDfr.out.mono ?_; rintro e6 w6 ⟨⟨b, rfl, hb⟩, hB6⟩; have HBb := hide' hb; have HG6 := hide' (bstep HBk.out hB6 HBk.out.size); have HD6 := hide' (HDk.out.idle (grown_below hB6 none)); clear hb hB6; cases b)
    ·go_ret2
     refine ⟨bstep HB1.out HG6.out HB1.out.size, .inr (.inl ⟨HCe.out, ?_, rfl⟩)⟩
     rw [HSoE.out, HE1.out]
     exact perm_tail (HBb.out.1 (by trivial)) HFp.out
    ·have HNp : Hid (¬ T.Perm (soaL T :: listU (A.foldl addU (noS T)))) := fun q => by
      rw [HSoE.out, HE1.out] at q
      have := HBb.out.2 (perm_tail q HFp.out.symm)
      cases this
     go_wp2_with (first
      | (go_at_call 21; refine (HSe.out _ HG6.out).mono ?_; rintro e7 w7 ⟨rfl, hB7⟩; have HG7 := hide' (bstep HG6.out hB7 HG6.out.size); have HD7 := hide' (HD6.out.idle (grown_below hB7 none)); clear hB7; obtain ⟨d1, d2, d3, d4, d5, -⟩ := HD7.out.cellsD; simp only at d1 d2 d3 d4 d5)
      | (go_at_call 27; refine (HSd.out _).mono ?_; rintro e8 w8 ⟨rfl, hB8⟩; have HG8 := hide' (bstep HG7.out hB8 HG7.out.size); have HD8 := hide' (HD7.out.idle (grown_below hB8 none)); clear hB8 d1 d2 d3 d4 d5))
     obtain ⟨w9, hw9⟩ : ∃ v, w8.drew = v := ⟨_, rfl⟩
     have HG9 : Hid (Below wb.heap.size wb w9) := hw9 ▸ HG8.out.grown (row := none) ⟨rfl, rfl, rfl, Nat.le_refl _, fun _ _ _ => rfl⟩ HG8.out.size (fun k e => by cases e)
     have HD9 : Hid (Dra w9 w1.heap.size D M (foldB apex) ⟨so, st, sc, sl, sd⟩ O') := hw9 ▸ HD8.out.idle ⟨rfl, rfl, rfl, Nat.le_refl _, fun _ _ _ => rfl⟩
     refine wp_region_held_drew (S := fun _ => True) (by kernel_rfl) trivial (fun hHeld => ?_)
     rw [hw9]
     refine takeD 0 (some 47) (.pointer (some ⟨D, 0, none⟩)) rfl rfl (by kernel_rfl) (by kernel_rfl) (by kernel_rfl) (fun _ _ _ h => h) (Or.inl ⟨by rfl, ?_⟩) (by assumption) ?_
     ·intro w hSw; (try dsimp only at hSw); go_simp <;> (intros; omega)
     simp only [Act.put, List.setIfInBounds_toArray, List.set_cons_zero, List.set_cons_succ]
     refine takeD 1 (some 48) (.pointer (some ⟨D, 0, none⟩)) rfl rfl (by kernel_rfl) (by kernel_rfl) (by kernel_rfl) (fun _ _ _ h => h) (Or.inl ⟨by rfl, ?_⟩) (by assumption) ?_
     ·intro w hSw; (try dsimp only at hSw); go_simp <;> (intros; omega)
     simp only [Act.put, List.setIfInBounds_toArray, List.set_cons_zero, List.set_cons_succ]
     refine takeD 2 (some 49) (.pointer (some ⟨D, 0, none⟩)) rfl rfl (by kernel_rfl) (by kernel_rfl) (by kernel_rfl) (fun _ _ _ h => h) (Or.inl ⟨by rfl, ?_⟩) (by assumption) ?_
     ·intro w hSw; (try dsimp only at hSw); go_simp <;> (intros; omega)
     simp only [Act.put, List.setIfInBounds_toArray, List.set_cons_zero, List.set_cons_succ]
     refine takeD 3 (some 50) (.pointer (some ⟨D, 1, none⟩)) rfl rfl (by kernel_rfl) (by kernel_rfl) (by kernel_rfl) (fun _ _ _ h => h) (Or.inl ⟨by rfl, ?_⟩) (by assumption) ?_
     ·intro w hSw; (try dsimp only at hSw); go_simp <;> (intros; omega)
     simp only [Act.put, List.setIfInBounds_toArray, List.set_cons_zero, List.set_cons_succ]
     refine takeD 5 (some 52) (.int .i64 (sn : Int)) rfl rfl (by kernel_rfl) (by kernel_rfl) (by kernel_rfl) (fun _ _ _ h => h) (Or.inl ⟨by rfl, ?_⟩) (by assumption) ?_
     ·intro w hSw; (try dsimp only at hSw); go_simp <;> (intros; omega)
     simp only [Act.put, List.setIfInBounds_toArray, List.set_cons_zero, List.set_cons_succ]
     obtain ⟨d1, d2, d3, d4, d5, -⟩ := HD9.out.cellsD
     simp only at d1 d2 d3 d4 d5
     refine wpAnyH_ready (rs := [4, 6]) (by kernel_rfl) (by simp) ?_
     refine AllReadyH.cons rfl (fun K hK => ?_) (AllReadyH.cons rfl (fun K hK => ?_) AllReadyH.nil)
     ·go_simp
      go_wp2_with fail
      refine hK.out _ _ trivial (fun hHeld => ?_)
      clear hK K
      try simp only [Act.put, List.setIfInBounds_toArray, List.set_cons_zero, List.set_cons_succ]
      refine wpAnyH_ready (rs := [6]) (by kernel_rfl) (by simp) ?_
      refine AllReadyH.cons rfl (fun K hK => ?_) AllReadyH.nil
      go_simp
      go_at_call 29; refine (HNx.out _).mono ?_; rintro e9 wv ⟨rfl, hwv⟩; have hwv' := hwv.symm; subst hwv'
      go_wp2_with fail
      refine hK.out _ _ trivial (fun hHeld => ?_)
      clear hK K
      try simp only [Act.put, List.setIfInBounds_toArray, List.set_cons_zero, List.set_cons_succ]
      refine wpAnyH_ready (rs := [7]) (by kernel_rfl) (by simp) ?_
      refine AllReadyH.cons rfl (fun K hK => ?_) AllReadyH.nil
      go_simp
      go_at_call 28; refine (HWs.out _).mono ?_; rintro e10 w10 ⟨rfl, hB10⟩; have HG10 := hide' (bstep HG9.out hB10 HG9.out.size); have HD10 := hide' (HD9.out.idle (grown_below hB10 none)); clear hB10
      go_wp2_with fail
      refine hK.out _ _ (trivial) (fun hHeld => ?_)
      clear hK K
      try simp only [Act.put, List.setIfInBounds_toArray, List.set_cons_zero, List.set_cons_succ]
      refine takeD 8 (some 55) (.pointer (some ⟨D, 0, none⟩)) rfl rfl (by kernel_rfl) (by kernel_rfl) (by kernel_rfl) (fun _ _ _ h => h) (Or.inl ⟨by rfl, ?_⟩) (by assumption) ?_
      ·intro w hSw; (try dsimp only at hSw); go_simp <;> (intros; omega)
      simp only [Act.put, List.setIfInBounds_toArray, List.set_cons_zero, List.set_cons_succ]
      refine takeD 9 (some 56) (.pointer (some ⟨D, 1, none⟩)) rfl rfl (by kernel_rfl) (by kernel_rfl) (by kernel_rfl) (fun _ _ _ h => h) (Or.inl ⟨by rfl, ?_⟩) (by assumption) ?_
      ·intro w hSw; (try dsimp only at hSw); go_simp <;> (intros; omega)
      simp only [Act.put, List.setIfInBounds_toArray, List.set_cons_zero, List.set_cons_succ]
      obtain ⟨d1, d2, d3, d4, d5, f1, f2, f3, f4, f5⟩ := HD10.out.cellsD
      simp only at d1 d2 d3 d4 d5
      obtain ⟨ws, hws⟩ : ∃ v, setD w10 D ⟨so, st, sc, sl, wsD sd (nxU sn)⟩ = v := ⟨_, rfl⟩
      have HDs : Hid (Dra ws w1.heap.size D M (foldB apex) ⟨so, st, sc, sl, wsD sd (nxU sn)⟩ O') := hws ▸ HD10.out.putSoa _
      have HGs9 : Hid (Below wb.heap.size wb ws) := HG10.out.grown (hws ▸ setD_grown _ _ _ : w10.grownBy ws (some D)) HG10.out.size (fun q e => by injection e with e; rw [← e]; exact Nat.le_trans HG1.out.size HD10.out.d0)
      unfold setD at hws
      simp only at hws
      refine wpAnyH_ready (rs := [10]) (by kernel_rfl) (by simp) ?_
      refine AllReadyH.cons rfl (fun K hK => ?_) AllReadyH.nil
      go_simp
      go_wp2_with fail
      refine hK.out _ _ (trivial) (fun hHeld => ?_)
      clear hK K
      try simp only [Act.put, List.setIfInBounds_toArray, List.set_cons_zero, List.set_cons_succ]
      refine wpAnyH_done (by kernel_rfl) ?_ _
      clear hHeld
      go_wp2_with (first
       | (go_at_call 30; refine (HAp.out _ HGs9.out).mono ?_; rintro e11 w11 ⟨rfl, hw11⟩; have hw11' := hw11.symm; subst hw11')
       | (go_at_call 31; go_loud (refine (recordsU_any HDs.out (by have := HFlen.out; omega)).mono ?_; rintro e12 w12 ⟨⟨v12, N, rfl, hLi, hNp⟩, hB12⟩; obtain ⟨p2, c2, hv12, -⟩ := own_shape hLi; subst hv12; have HRs : Hid (RsAt w12 p2 N) := rsAt_ownZ hLi rfl; have HNN : Hid (N.Perm (soaN ⟨so, st, sc, sl, sd⟩ :: listU E1)) := (by rw [HSoN.out]; exact perm_tail hNp HFp.out); have HG12 := hide' (bstep HGs9.out hB12 HGs9.out.size); clear hLi hNp hB12; have HNw : Hid (Calls Tryz.prog 4 #[.string apex, .slice p2 N.length c2] w12 (NwE apex N w12)) := new_any apex N p2 c2 w12 (by have h1 := HNN.out.length_eq; have h2 := HE1l.out; unfold listU at h1; simp only [List.length_cons, List.length_map] at h1; omega) HRs.out (fun j hj => by
               rw [← rAt_get hj]
               have hj2 := HNN.out.mem_iff.1 (List.getElem_mem hj)
               rcases List.mem_cons.1 hj2 with q | q
               ·rw [q]; exact HGn.out.keys.2.2.2.2.2.2
               ·exact (gd_list HG1e.out _ q).keys.2.2.2.2.2.2) HAp255.out; obtain ⟨pa, pc, hpac⟩ : ∃ a c, mkC apex N = (a, c) := ⟨_, _, rfl⟩; have HPac := hide' hpac; clear hpac))
       | (go_at_call 4; refine HNw.out.mono ?_; intro e13 w13 hnw; have HG13 := hide' (bstep HG12.out hnw.bl HG12.out.size); have hca := nw_cases hnw HPac.out; clear hnw; rcases hca with ⟨hpc, ord2, Z2, RW2, NM2, C2, m2, cnt2, p9, cp2, f2, rfl, HZo⟩ | ⟨HPc, npc, rfl⟩))
      ·go_ret2
       refine ⟨bstep HB1.out HG13.out HB1.out.size, .inr (.inr ⟨HCe.out, HNp.out, N, by rw [HSoE.out, HE1.out]; exact HNN.out, .inr ⟨_, _, _, _, _, _, _, _, _, _, rfl, HZo.out.lower (by have h1 := HWB.out; have h2 := HG12.out.size; omega)⟩⟩)⟩
      ·go_ret2
       refine ⟨bstep HB1.out HG13.out HB1.out.size, .inr (.inr ⟨HCe.out, HNp.out, N, by rw [HSoE.out, HE1.out]; exact HNN.out, .inl ⟨by rw [HPac.out]; exact HPc.out, rfl⟩⟩)⟩
     ·go_simp
      go_at_call 29; refine (HNx.out _).mono ?_; rintro e9 wv ⟨rfl, hwv⟩; have hwv' := hwv.symm; subst hwv'
      go_wp2_with fail
      refine hK.out _ _ trivial (fun hHeld => ?_)
      clear hK K
      try simp only [Act.put, List.setIfInBounds_toArray, List.set_cons_zero, List.set_cons_succ]
      refine wpAnyH_ready (rs := [4]) (by kernel_rfl) (by simp) ?_
      refine AllReadyH.cons rfl (fun K hK => ?_) AllReadyH.nil
      go_simp
      go_wp2_with fail
      refine hK.out _ _ trivial (fun hHeld => ?_)
      clear hK K
      try simp only [Act.put, List.setIfInBounds_toArray, List.set_cons_zero, List.set_cons_succ]
      refine wpAnyH_ready (rs := [7]) (by kernel_rfl) (by simp) ?_
      refine AllReadyH.cons rfl (fun K hK => ?_) AllReadyH.nil
      go_simp
      go_at_call 28; refine (HWs.out _).mono ?_; rintro e10 w10 ⟨rfl, hB10⟩; have HG10 := hide' (bstep HG9.out hB10 HG9.out.size); have HD10 := hide' (HD9.out.idle (grown_below hB10 none)); clear hB10
      go_wp2_with fail
      refine hK.out _ _ (trivial) (fun hHeld => ?_)
      clear hK K
      try simp only [Act.put, List.setIfInBounds_toArray, List.set_cons_zero, List.set_cons_succ]
      refine takeD 8 (some 55) (.pointer (some ⟨D, 0, none⟩)) rfl rfl (by kernel_rfl) (by kernel_rfl) (by kernel_rfl) (fun _ _ _ h => h) (Or.inl ⟨by rfl, ?_⟩) (by assumption) ?_
      ·intro w hSw; (try dsimp only at hSw); go_simp <;> (intros; omega)
      simp only [Act.put, List.setIfInBounds_toArray, List.set_cons_zero, List.set_cons_succ]
      refine takeD 9 (some 56) (.pointer (some ⟨D, 1, none⟩)) rfl rfl (by kernel_rfl) (by kernel_rfl) (by kernel_rfl) (fun _ _ _ h => h) (Or.inl ⟨by rfl, ?_⟩) (by assumption) ?_
      ·intro w hSw; (try dsimp only at hSw); go_simp <;> (intros; omega)
      simp only [Act.put, List.setIfInBounds_toArray, List.set_cons_zero, List.set_cons_succ]
      obtain ⟨d1, d2, d3, d4, d5, f1, f2, f3, f4, f5⟩ := HD10.out.cellsD
      simp only at d1 d2 d3 d4 d5
      obtain ⟨ws, hws⟩ : ∃ v, setD w10 D ⟨so, st, sc, sl, wsD sd (nxU sn)⟩ = v := ⟨_, rfl⟩
      have HDs : Hid (Dra ws w1.heap.size D M (foldB apex) ⟨so, st, sc, sl, wsD sd (nxU sn)⟩ O') := hws ▸ HD10.out.putSoa _
      have HGs9 : Hid (Below wb.heap.size wb ws) := HG10.out.grown (hws ▸ setD_grown _ _ _ : w10.grownBy ws (some D)) HG10.out.size (fun q e => by injection e with e; rw [← e]; exact Nat.le_trans HG1.out.size HD10.out.d0)
      unfold setD at hws
      simp only at hws
      refine wpAnyH_ready (rs := [10]) (by kernel_rfl) (by simp) ?_
      refine AllReadyH.cons rfl (fun K hK => ?_) AllReadyH.nil
      go_simp
      go_wp2_with fail
      refine hK.out _ _ (trivial) (fun hHeld => ?_)
      clear hK K
      try simp only [Act.put, List.setIfInBounds_toArray, List.set_cons_zero, List.set_cons_succ]
      refine wpAnyH_done (by kernel_rfl) ?_ _
      clear hHeld
      go_wp2_with (first
       | (go_at_call 30; refine (HAp.out _ HGs9.out).mono ?_; rintro e11 w11 ⟨rfl, hw11⟩; have hw11' := hw11.symm; subst hw11')
       | (go_at_call 31; go_loud (refine (recordsU_any HDs.out (by have := HFlen.out; omega)).mono ?_; rintro e12 w12 ⟨⟨v12, N, rfl, hLi, hNp⟩, hB12⟩; obtain ⟨p2, c2, hv12, -⟩ := own_shape hLi; subst hv12; have HRs : Hid (RsAt w12 p2 N) := rsAt_ownZ hLi rfl; have HNN : Hid (N.Perm (soaN ⟨so, st, sc, sl, sd⟩ :: listU E1)) := (by rw [HSoN.out]; exact perm_tail hNp HFp.out); have HG12 := hide' (bstep HGs9.out hB12 HGs9.out.size); clear hLi hNp hB12; have HNw : Hid (Calls Tryz.prog 4 #[.string apex, .slice p2 N.length c2] w12 (NwE apex N w12)) := new_any apex N p2 c2 w12 (by have h1 := HNN.out.length_eq; have h2 := HE1l.out; unfold listU at h1; simp only [List.length_cons, List.length_map] at h1; omega) HRs.out (fun j hj => by
               rw [← rAt_get hj]
               have hj2 := HNN.out.mem_iff.1 (List.getElem_mem hj)
               rcases List.mem_cons.1 hj2 with q | q
               ·rw [q]; exact HGn.out.keys.2.2.2.2.2.2
               ·exact (gd_list HG1e.out _ q).keys.2.2.2.2.2.2) HAp255.out; obtain ⟨pa, pc, hpac⟩ : ∃ a c, mkC apex N = (a, c) := ⟨_, _, rfl⟩; have HPac := hide' hpac; clear hpac))
       | (go_at_call 4; refine HNw.out.mono ?_; intro e13 w13 hnw; have HG13 := hide' (bstep HG12.out hnw.bl HG12.out.size); have hca := nw_cases hnw HPac.out; clear hnw; rcases hca with ⟨hpc, ord2, Z2, RW2, NM2, C2, m2, cnt2, p9, cp2, f2, rfl, HZo⟩ | ⟨HPc, npc, rfl⟩))
      ·go_ret2
       refine ⟨bstep HB1.out HG13.out HB1.out.size, .inr (.inr ⟨HCe.out, HNp.out, N, by rw [HSoE.out, HE1.out]; exact HNN.out, .inr ⟨_, _, _, _, _, _, _, _, _, _, rfl, HZo.out.lower (by have h1 := HWB.out; have h2 := HG12.out.size; omega)⟩⟩)⟩
      ·go_ret2
       refine ⟨bstep HB1.out HG13.out HB1.out.size, .inr (.inr ⟨HCe.out, HNp.out, N, by rw [HSoE.out, HE1.out]; exact HNN.out, .inl ⟨by rw [HPac.out]; exact HPc.out, rfl⟩⟩)⟩
 ·go_enter Tryz.func8, Tryz.ntmps8
  have nz : (ck != 0) = true := by simpa using hz
  go_wp2_with (go_at_call 23; refine HCk.out.mono ?_; rintro e1 w1 ⟨rfl, hB⟩; have HG1 := hide' hB; clear hB)
  go_ret2
  exact ⟨bstep HB1.out HG1.out HB1.out.size, .inl ⟨by rw [HCe.out]; exact hz, by rw [HCe.out]; rfl⟩⟩
end
end Go.Proofs.YtoabnpdoicbpiaaGreat
namespace Go.Proofs.YtoabnpdoicbpiaaGreat
set_option linter.unusedVariables false
set_option linter.unusedSimpArgs false
open Go.RowKit Go.Shelf Go.Maps Go.Proofs.YtoabnpdoicbpiaaGreat.Nm Go.Proofs.YtoabnpdoicbpiaaGreat.Zs Go.Proofs.YtoabnpdoicbpiaaGreat.Ud
def exU : ByteArray := ⟨#[2, 101, 120, 0]⟩
def s0U : Rn := ⟨exU, 6, 1, 300, ⟨#[2, 110, 115, 2, 101, 120, 0, 1, 104, 2, 101, 120, 0, 0, 0, 0, 1, 0, 0, 0, 1, 0, 0, 0, 1, 0, 0, 0, 1, 0, 0, 0, 60]⟩⟩
def s1U : Rn := ⟨exU, 2, 1, 300, ⟨#[2, 110, 115, 2, 101, 120, 0]⟩⟩
def frU : Rn := ⟨⟨#[1, 97, 2, 101, 120, 0]⟩, 1, 1, 60, ⟨#[1, 2, 3, 4]⟩⟩
set_option maxRecDepth 100000 in
theorem smallU_any (w : World) : Calls Tryz.prog 19 #[] w fun e w' => e = .returned (.slice (some ⟨w.heap.size, 0, none⟩) 2 2) ∧ RsAt w' (some ⟨w.heap.size, 0, none⟩) [s0U, s1U] ∧ Below w.heap.size w w' := by
 obtain ⟨wa, hwa⟩ : ∃ wa, w.alloc (.cells (rce5 [s0U, s1U]).toArray 29) = wa := ⟨_, rfl⟩
 have HB : Hid (Below w.heap.size w wa) := hwa ▸ (Below.refl _ w).alloc (Nat.le_refl _) _
 have HX : Hid (Bx wa w.heap.size (rce5 [s0U, s1U]).toArray 29) := hwa ▸ World.alloc_heap_new w _
 have HR : Hid (RsAt wa (some ⟨w.heap.size, 0, none⟩) [s0U, s1U]) := by
  intro k hk
  have hk2 : k = 0 ∨ k = 1 := by simp at hk; omega
  have hlt := HX.out.lt
  rcases hk2 with rfl | rfl
  ·exact ⟨w.heap.size, 0, rfl, hlt, HX.out.cell rfl, HX.out.cell rfl, HX.out.cell rfl, HX.out.cell rfl, HX.out.cell rfl⟩
  ·exact ⟨w.heap.size, 0, rfl, hlt, HX.out.cell rfl, HX.out.cell rfl, HX.out.cell rfl, HX.out.cell rfl, HX.out.cell rfl⟩
 have hwb : w.alloc (.cells #[.string ⟨#[2, 101, 120, 0]⟩, .int .i64 6, .int .i64 1, .int .i64 300, .string ⟨#[2, 110, 115, 2, 101, 120, 0, 1, 104, 2, 101, 120, 0, 0, 0, 0, 1, 0, 0, 0, 1, 0, 0, 0, 1, 0, 0, 0, 1, 0, 0, 0, 60]⟩, .string ⟨#[2, 101, 120, 0]⟩, .int .i64 2, .int .i64 1, .int .i64 300, .string ⟨#[2, 110, 115, 2, 101, 120, 0]⟩] 29) = wa := hwa
 clear hwa
 go_enter Tryz.func19, Tryz.ntmps19
 go_wp2_with fail
 go_ret
 exact ⟨rfl, HR.out, HB.out⟩
set_option maxRecDepth 100000 in
set_option maxHeartbeats 1000000 in
theorem freshU_any (w : World) : Calls Tryz.prog 20 #[] w fun e w' => e = .returned (.agg #[.string ⟨#[1, 97, 2, 101, 120, 0]⟩, .int .i64 1, .int .i64 1, .int .i64 60, .string ⟨#[1, 2, 3, 4]⟩]) ∧ Below w.heap.size w w' := by
 obtain ⟨a1, h1⟩ : ∃ a, w.alloc (.cells #[.string ⟨#[]⟩, .int .i64 0, .int .i64 0, .int .i64 0, .string ⟨#[]⟩] 29) = a := ⟨_, rfl⟩
 have HB1 : Hid (Below w.heap.size w a1) := h1 ▸ (Below.refl _ w).alloc (Nat.le_refl _) _
 have HX1 : Hid (Bx a1 w.heap.size #[.string ⟨#[]⟩, .int .i64 0, .int .i64 0, .int .i64 0, .string ⟨#[]⟩] 29) := h1 ▸ World.alloc_heap_new w _
 obtain ⟨x0, x1, x2, x3, x4⟩ := bx5U HX1.out
 have f0 := HX1.out.free 0
 have f1 := HX1.out.free 1
 have f2 := HX1.out.free 2
 have f3 := HX1.out.free 3
 have f4 := HX1.out.free 4
 go_enter Tryz.func20, Tryz.ntmps20
 go_wp2_with fail
 obtain ⟨r0, r1, r2, r3, r4⟩ := bx5U (bx5U_set HX1.out (.string ⟨#[1, 97, 2, 101, 120, 0]⟩) (.int .i64 1) (.int .i64 1) (.int .i64 60) (.string ⟨#[1, 2, 3, 4]⟩))
 refine bodyPost_ret (v := .agg #[.string ⟨#[1, 97, 2, 101, 120, 0]⟩, .int .i64 1, .int .i64 1, .int .i64 60, .string ⟨#[1, 2, 3, 4]⟩]) (by simp [results, go_sem, r0, r1, r2, r3, r4]) rfl ⟨rfl, ?_⟩
 exact ((((HB1.out.setCell (p := ⟨w.heap.size, 0, none⟩) (Nat.le_refl _) _).setCell (p := ⟨w.heap.size, 1, none⟩) (Nat.le_refl _) _).setCell (p := ⟨w.heap.size, 2, none⟩) (Nat.le_refl _) _).setCell (p := ⟨w.heap.size, 3, none⟩) (Nat.le_refl _) _).setCell (p := ⟨w.heap.size, 4, none⟩) (Nat.le_refl _) _
theorem bx14U_set {w : World} {R : Nat} {T : TypeId} {a b c d e f i j k l m n o p : Value} (h : Bx w R #[a, b, c, d, e, f, i, j, k, l, m, n, o, p] T) (a' b' c' d' e' f' i' j' k' l' m' n' o' p' : Value) : Bx ((((((((((((((w.setCell ⟨R, 0, none⟩ a').setCell ⟨R, 1, none⟩ b').setCell ⟨R, 2, none⟩ c').setCell ⟨R, 3, none⟩ d').setCell ⟨R, 4, none⟩ e').setCell ⟨R, 5, none⟩ f').setCell ⟨R, 6, none⟩ i').setCell ⟨R, 7, none⟩ j').setCell ⟨R, 8, none⟩ k').setCell ⟨R, 9, none⟩ l').setCell ⟨R, 10, none⟩ m').setCell ⟨R, 11, none⟩ n').setCell ⟨R, 12, none⟩ o').setCell ⟨R, 13, none⟩ p') R #[a', b', c', d', e', f', i', j', k', l', m', n', o', p'] T ∧ w.grownBy ((((((((((((((w.setCell ⟨R, 0, none⟩ a').setCell ⟨R, 1, none⟩ b').setCell ⟨R, 2, none⟩ c').setCell ⟨R, 3, none⟩ d').setCell ⟨R, 4, none⟩ e').setCell ⟨R, 5, none⟩ f').setCell ⟨R, 6, none⟩ i').setCell ⟨R, 7, none⟩ j').setCell ⟨R, 8, none⟩ k').setCell ⟨R, 9, none⟩ l').setCell ⟨R, 10, none⟩ m').setCell ⟨R, 11, none⟩ n').setCell ⟨R, 12, none⟩ o').setCell ⟨R, 13, none⟩ p') (some R) := by
 have h0 : Bx (w.setCell ⟨R, 0, none⟩ a') R #[a', b, c, d, e, f, i, j, k, l, m, n, o, p] T := h.set 0 a'
 have h1 : Bx ((w.setCell ⟨R, 0, none⟩ a').setCell ⟨R, 1, none⟩ b') R #[a', b', c, d, e, f, i, j, k, l, m, n, o, p] T := h0.set 1 b'
 have h2 : Bx (((w.setCell ⟨R, 0, none⟩ a').setCell ⟨R, 1, none⟩ b').setCell ⟨R, 2, none⟩ c') R #[a', b', c', d, e, f, i, j, k, l, m, n, o, p] T := h1.set 2 c'
 have h3 : Bx ((((w.setCell ⟨R, 0, none⟩ a').setCell ⟨R, 1, none⟩ b').setCell ⟨R, 2, none⟩ c').setCell ⟨R, 3, none⟩ d') R #[a', b', c', d', e, f, i, j, k, l, m, n, o, p] T := h2.set 3 d'
 have h4 : Bx (((((w.setCell ⟨R, 0, none⟩ a').setCell ⟨R, 1, none⟩ b').setCell ⟨R, 2, none⟩ c').setCell ⟨R, 3, none⟩ d').setCell ⟨R, 4, none⟩ e') R #[a', b', c', d', e', f, i, j, k, l, m, n, o, p] T := h3.set 4 e'
 have h5 : Bx ((((((w.setCell ⟨R, 0, none⟩ a').setCell ⟨R, 1, none⟩ b').setCell ⟨R, 2, none⟩ c').setCell ⟨R, 3, none⟩ d').setCell ⟨R, 4, none⟩ e').setCell ⟨R, 5, none⟩ f') R #[a', b', c', d', e', f', i, j, k, l, m, n, o, p] T := h4.set 5 f'
 have h6 : Bx (((((((w.setCell ⟨R, 0, none⟩ a').setCell ⟨R, 1, none⟩ b').setCell ⟨R, 2, none⟩ c').setCell ⟨R, 3, none⟩ d').setCell ⟨R, 4, none⟩ e').setCell ⟨R, 5, none⟩ f').setCell ⟨R, 6, none⟩ i') R #[a', b', c', d', e', f', i', j, k, l, m, n, o, p] T := h5.set 6 i'
 have h7 : Bx ((((((((w.setCell ⟨R, 0, none⟩ a').setCell ⟨R, 1, none⟩ b').setCell ⟨R, 2, none⟩ c').setCell ⟨R, 3, none⟩ d').setCell ⟨R, 4, none⟩ e').setCell ⟨R, 5, none⟩ f').setCell ⟨R, 6, none⟩ i').setCell ⟨R, 7, none⟩ j') R #[a', b', c', d', e', f', i', j', k, l, m, n, o, p] T := h6.set 7 j'
 have h8 : Bx (((((((((w.setCell ⟨R, 0, none⟩ a').setCell ⟨R, 1, none⟩ b').setCell ⟨R, 2, none⟩ c').setCell ⟨R, 3, none⟩ d').setCell ⟨R, 4, none⟩ e').setCell ⟨R, 5, none⟩ f').setCell ⟨R, 6, none⟩ i').setCell ⟨R, 7, none⟩ j').setCell ⟨R, 8, none⟩ k') R #[a', b', c', d', e', f', i', j', k', l, m, n, o, p] T := h7.set 8 k'
 have h9 : Bx ((((((((((w.setCell ⟨R, 0, none⟩ a').setCell ⟨R, 1, none⟩ b').setCell ⟨R, 2, none⟩ c').setCell ⟨R, 3, none⟩ d').setCell ⟨R, 4, none⟩ e').setCell ⟨R, 5, none⟩ f').setCell ⟨R, 6, none⟩ i').setCell ⟨R, 7, none⟩ j').setCell ⟨R, 8, none⟩ k').setCell ⟨R, 9, none⟩ l') R #[a', b', c', d', e', f', i', j', k', l', m, n, o, p] T := h8.set 9 l'
 have h10 : Bx (((((((((((w.setCell ⟨R, 0, none⟩ a').setCell ⟨R, 1, none⟩ b').setCell ⟨R, 2, none⟩ c').setCell ⟨R, 3, none⟩ d').setCell ⟨R, 4, none⟩ e').setCell ⟨R, 5, none⟩ f').setCell ⟨R, 6, none⟩ i').setCell ⟨R, 7, none⟩ j').setCell ⟨R, 8, none⟩ k').setCell ⟨R, 9, none⟩ l').setCell ⟨R, 10, none⟩ m') R #[a', b', c', d', e', f', i', j', k', l', m', n, o, p] T := h9.set 10 m'
 have h11 : Bx ((((((((((((w.setCell ⟨R, 0, none⟩ a').setCell ⟨R, 1, none⟩ b').setCell ⟨R, 2, none⟩ c').setCell ⟨R, 3, none⟩ d').setCell ⟨R, 4, none⟩ e').setCell ⟨R, 5, none⟩ f').setCell ⟨R, 6, none⟩ i').setCell ⟨R, 7, none⟩ j').setCell ⟨R, 8, none⟩ k').setCell ⟨R, 9, none⟩ l').setCell ⟨R, 10, none⟩ m').setCell ⟨R, 11, none⟩ n') R #[a', b', c', d', e', f', i', j', k', l', m', n', o, p] T := h10.set 11 n'
 have h12 : Bx (((((((((((((w.setCell ⟨R, 0, none⟩ a').setCell ⟨R, 1, none⟩ b').setCell ⟨R, 2, none⟩ c').setCell ⟨R, 3, none⟩ d').setCell ⟨R, 4, none⟩ e').setCell ⟨R, 5, none⟩ f').setCell ⟨R, 6, none⟩ i').setCell ⟨R, 7, none⟩ j').setCell ⟨R, 8, none⟩ k').setCell ⟨R, 9, none⟩ l').setCell ⟨R, 10, none⟩ m').setCell ⟨R, 11, none⟩ n').setCell ⟨R, 12, none⟩ o') R #[a', b', c', d', e', f', i', j', k', l', m', n', o', p] T := h11.set 12 o'
 have h13 : Bx ((((((((((((((w.setCell ⟨R, 0, none⟩ a').setCell ⟨R, 1, none⟩ b').setCell ⟨R, 2, none⟩ c').setCell ⟨R, 3, none⟩ d').setCell ⟨R, 4, none⟩ e').setCell ⟨R, 5, none⟩ f').setCell ⟨R, 6, none⟩ i').setCell ⟨R, 7, none⟩ j').setCell ⟨R, 8, none⟩ k').setCell ⟨R, 9, none⟩ l').setCell ⟨R, 10, none⟩ m').setCell ⟨R, 11, none⟩ n').setCell ⟨R, 12, none⟩ o').setCell ⟨R, 13, none⟩ p') R #[a', b', c', d', e', f', i', j', k', l', m', n', o', p'] T := h12.set 13 p'
 refine ⟨h13, ?_⟩
 exact grown_trans (grown_trans (grown_trans (grown_trans (grown_trans (grown_trans (grown_trans (grown_trans (grown_trans (grown_trans (grown_trans (grown_trans (grown_trans (grown_set _ _ _ _) (grown_set _ _ _ _)) (grown_set _ _ _ _)) (grown_set _ _ _ _)) (grown_set _ _ _ _)) (grown_set _ _ _ _)) (grown_set _ _ _ _)) (grown_set _ _ _ _)) (grown_set _ _ _ _)) (grown_set _ _ _ _)) (grown_set _ _ _ _)) (grown_set _ _ _ _)) (grown_set _ _ _ _)) (grown_set _ _ _ _)
set_option maxRecDepth 100000 in
set_option maxHeartbeats 4000000 in
theorem asksU_any (top : ByteArray) (a0 : Option Addr) (n ac : Nat) (w : World) : Calls Tryz.prog 7 #[.string top, .slice none 0 0, .slice a0 n ac] w fun r w' => ∃ g, r = .returned (.agg #[.int .i64 9, .bool false, .int .i64 5, .bool false, .bool false, .bool false, .bool false, .bool false, .bool false, .int .i64 0, .slice (some ⟨g, 0, none⟩) 1 1, .slice none 0 0, .slice a0 n ac, .slice none 0 0]) ∧ Bx w' g #[.string top, .int .i64 6, .int .i64 1] 63 ∧ Below w.heap.size w w' := by
 obtain ⟨a1, h1⟩ : ∃ a, w.alloc (.cells #[.int .i64 0, .bool false, .int .i64 0, .bool false, .bool false, .bool false, .bool false, .bool false, .bool false, .int .i64 0, .slice none 0 0, .slice none 0 0, .slice none 0 0, .slice none 0 0] 33) = a := ⟨_, rfl⟩
 have HB1 : Hid (Below w.heap.size w a1) := h1 ▸ (Below.refl _ w).alloc (Nat.le_refl _) _
 have HX1 : Hid (Bx a1 w.heap.size #[.int .i64 0, .bool false, .int .i64 0, .bool false, .bool false, .bool false, .bool false, .bool false, .bool false, .int .i64 0, .slice none 0 0, .slice none 0 0, .slice none 0 0, .slice none 0 0] 33) := h1 ▸ World.alloc_heap_new w _
 obtain ⟨a2, h2⟩ : ∃ a, a1.alloc (.cells #[.string top, .int .i64 6, .int .i64 1] 63) = a := ⟨_, rfl⟩
 have HG2 : Hid (a1.grownBy a2 none) := h2 ▸ World.grownBy_alloc a1 _ none
 have HQ2 : Hid (Bx a2 a1.heap.size #[.string top, .int .i64 6, .int .i64 1] 63) := h2 ▸ World.alloc_heap_new a1 _
 have HX2 := hide' (HX1.out.grown HG2.out (by simp))
 obtain ⟨x0, x1, x2, x3, x4, x5, x6, x7, x8, x9, x10, x11, x12, x13⟩ := bx14U HX2.out
 have f0 := HX2.out.free 0
 have f1 := HX2.out.free 1
 have f2 := HX2.out.free 2
 have f3 := HX2.out.free 3
 have f4 := HX2.out.free 4
 have f5 := HX2.out.free 5
 have f6 := HX2.out.free 6
 have f7 := HX2.out.free 7
 have f8 := HX2.out.free 8
 have f9 := HX2.out.free 9
 have f10 := HX2.out.free 10
 have f11 := HX2.out.free 11
 have f12 := HX2.out.free 12
 have f13 := HX2.out.free 13
 have hne : a1.heap.size ≠ w.heap.size := by have := HX1.out.lt; omega
 have HNe := hide' hne
 clear hne
 go_enter Tryz.func7, Tryz.ntmps7
 go_wp2_with fail
 obtain ⟨hb, hg⟩ := bx14U_set HX2.out (.int .i64 9) (.bool false) (.int .i64 5) (.bool false) (.bool false) (.bool false) (.bool false) (.bool false) (.bool false) (.int .i64 0) (.slice (some ⟨a1.heap.size, 0, none⟩) 1 1) (.slice none 0 0) (.slice a0 n ac) (.slice none 0 0)
 obtain ⟨r0, r1, r2, r3, r4, r5, r6, r7, r8, r9, r10, r11, r12, r13⟩ := bx14U hb
 have hq := HQ2.out.grown hg (fun e => HNe.out (Option.some.inj e).symm)
 have hbl := (HB1.out.grown HG2.out HB1.out.size (fun k e => by cases e)).grown hg (Nat.le_trans HB1.out.size HG2.out.size) (fun k e => by injection e with e; omega)
 refine bodyPost_ret (v := .agg #[.int .i64 9, .bool false, .int .i64 5, .bool false, .bool false, .bool false, .bool false, .bool false, .bool false, .int .i64 0, .slice (some ⟨a1.heap.size, 0, none⟩) 1 1, .slice none 0 0, .slice a0 n ac, .slice none 0 0]) (by simp [results, go_sem, r0, r1, r2, r3, r4, r5, r6, r7, r8, r9, r10, r11, r12, r13]) rfl ⟨_, rfl, hq, hbl⟩
end Go.Proofs.YtoabnpdoicbpiaaGreat
namespace Go.Proofs.YtoabnpdoicbpiaaGreat
set_option linter.unusedVariables false
set_option linter.unusedSimpArgs false
open Go.RowKit Go.Shelf Go.Maps Go.Proofs.YtoabnpdoicbpiaaGreat.Nm Go.Proofs.YtoabnpdoicbpiaaGreat.Zs Go.Proofs.YtoabnpdoicbpiaaGreat.Ud
theorem small_codeU : (mkC exU [s0U, s1U]).2 = 0 := by decide +kernel
theorem small_askU : ckU exU exU [frU] = 0 := by decide +kernel
theorem small_newU : (mkC exU [soaN s0U, s1U, frU]).2 = 0 := by decide +kernel
theorem small_ser1 : serN s0U.d = 1 := by decide +kernel
theorem small_ser2 : serN (soaN s0U).d = 2 := by decide +kernel
theorem small_listU : listU ([frU].foldl addU [s1U]) = [s1U, frU] := by kernel_rfl
theorem perm_twoU {T : List Rn} (h : T.Perm [s0U, s1U]) : soaL T = s0U ∧ noS T = [s1U] := by
 have hl := h.length_eq
 match T, hl, h with
 | [a, b], _, h =>
  have ha : a ∈ [s0U, s1U] := h.mem_iff.1 (by simp)
  have h1 : s0U ∈ [a, b] := h.mem_iff.2 (by simp)
  have h2 : s1U ∈ [a, b] := h.mem_iff.2 (by simp)
  have hne : s0U ≠ s1U := fun e => by have := congrArg Rn.t e; simp [s0U, s1U] at this
  simp only [List.mem_cons, List.not_mem_nil, or_false] at ha h1 h2
  rcases ha with rfl | rfl
  ·rcases h2 with h2 | h2
   ·exact absurd h2.symm hne
   ·subst h2
    exact ⟨rfl, rfl⟩
  ·rcases h1 with h1 | h1
   ·exact absurd h1 hne
   ·subst h1
    exact ⟨rfl, rfl⟩
theorem small_apU {W w' : World} {Z : Nat} {T : List Rn} {r : Ending} (hT : T.Perm [s0U, s1U]) (h : apE W exU exU Z T [frU] r w') : ∃ N ord Z2 RW NM C m cnt p cp f, r = .returned (.tuple #[.pointer (some ⟨Z2, 0, none⟩), .int .i64 0]) ∧ Zon W.heap.size w' exU N ord Z2 RW NM C m cnt p cp f ∧ N.length = 3 ∧ serL (ord.map (rAt N)) = 2 ∧ Below W.heap.size W w' := by
 obtain ⟨hb, h⟩ := h
 obtain ⟨e1, e2⟩ := perm_twoU hT
 rw [e1, e2, small_listU] at h
 rcases h with ⟨h1, _⟩ | ⟨_, h1, _⟩ | ⟨_, _, N, hN, ⟨h1, _⟩ | ⟨ord, Z2, RW, NM, C, m, cnt, p, cp, f, h1, h2⟩⟩
 ·exact absurd small_askU h1
 ·have := (h1.symm.trans hT).length_eq
  simp at this
 ·exact absurd (by rw [mkC_perm hN]; exact small_newU) h1
 ·refine ⟨N, ord, Z2, RW, NM, C, m, cnt, p, cp, f, h1, h2, hN.length_eq, ?_, hb⟩
  obtain ⟨k1, k2, k3⟩ := h2.soaIn
  have k4 := hN.mem_iff.1 (h2.laid.perm.mem_iff.1 k1)
  rw [k3]
  have k5 : soaL (ord.map (rAt N)) = soaN s0U := by
   simp only [List.mem_cons, List.not_mem_nil, or_false] at k4
   rcases k4 with k4 | k4 | k4
   ·exact k4
   ·rw [k4] at k2
    simp [s1U] at k2
   ·rw [k4] at k2
    simp [frU] at k2
  rw [k5, small_ser2]
  rfl
theorem rs_smU (j : Nat) (hj : j < [s0U, s1U].length) : rSm (rAt [s0U, s1U] j) := by
 have hj2 : j = 0 ∨ j = 1 := by simp at hj; omega
 rcases hj2 with rfl | rfl
 ·exact ⟨by decide, by decide⟩
 ·exact ⟨by decide, by decide⟩
theorem brk_small (apex : ByteArray) (L : List Rn) (p : Option Addr) (cap k rule : Nat) (w : World) (hL : L.length ≤ 1048576) (hat : RsAt w p L) (hs : ∀ j, j < L.length → rSm (rAt L j)) (hap : apex.size ≤ 1048576) (hk : k < L.length) (h2 : 2 ≤ rule) (h10 : rule ≤ 10) (hty : ∀ j, j < L.length → (rAt L j).t ≠ 5 ∧ (rAt L j).t ≠ 39) :
  Calls Tryz.prog 81 #[.int .i64 (rule : Int), .string apex, .slice p L.length cap, .int .i64 (k : Int)] w fun r w' => r = .returned (.bool (brkB apex L rule k)) ∧ Below w.heap.size w w' := by
 have hc : rule = 2 ∨ rule = 3 ∨ rule = 4 ∨ rule = 5 ∨ rule = 6 ∨ rule = 7 ∨ rule = 8 ∨ rule = 9 ∨ rule = 10 := by omega
 rcases hc with rfl | rfl | rfl | rfl | rfl | rfl | rfl | rfl | rfl
 ·exact brk2_any apex L p cap k w hL hat hs hap hk
 ·exact brk3_any apex L p cap k w hL hat hs hap hk
 ·exact brk4_any apex L p cap k w hL hat hs hap hk
 ·exact brk5_any apex L p cap k w hL hat hs hap hk
 ·exact brk6_any apex L p cap k w hL hat hs hap hk
 ·exact brk7_any apex L p cap k w hL hat hs hap hk
 ·exact brk8_not apex L p cap k w hL hat hs hap hk (hty k hk).1
 ·exact brk9_not apex L p cap k w hL hat hs hap hk (hty k hk).2
 ·exact brk10_any apex L p cap k w hL hat hs hap hk
theorem ty_smU (j : Nat) (hj : j < [s0U, s1U].length) : (rAt [s0U, s1U] j).t ≠ 5 ∧ (rAt [s0U, s1U] j).t ≠ 39 := by
 have hj2 : j = 0 ∨ j = 1 := by simp at hj; omega
 rcases hj2 with rfl | rfl
 ·exact ⟨by decide, by decide⟩
 ·exact ⟨by decide, by decide⟩
theorem gu_frU : rSm frU := ⟨by decide, by decide⟩
set_option maxRecDepth 100000 in
set_option maxHeartbeats 4000000 in
theorem bothU_any (g : Nat) (w : World) (hat : RsAt w (some ⟨g, 0, none⟩) [s0U, s1U]) :
  Calls Tryz.prog 18 #[.string ⟨#[2, 101, 120, 0]⟩, .slice (some ⟨g, 0, none⟩) 2 2] w fun r w' => ∃ ord Z RW NM C m cnt p cp f zb, r = .returned (.tuple #[.pointer (some ⟨Z, 0, none⟩), .pointer (some ⟨zb, 0, none⟩), .bool true]) ∧ Zon w.heap.size w' exU [s0U, s1U] ord Z RW NM C m cnt p cp f ∧ Below w.heap.size w w' := by
 have HNw : Hid (Calls Tryz.prog 4 #[.string ⟨#[2, 101, 120, 0]⟩, .slice (some ⟨g, 0, none⟩) 2 2] w fun e w' => (∃ ord Z RW NM C m cnt p cp f, e = .returned (.tuple #[.pointer (some ⟨Z, 0, none⟩), .int .i64 0, .int .i64 0]) ∧ Zon w.heap.size w' exU [s0U, s1U] ord Z RW NM C m cnt p cp f) ∧ Below w.heap.size w w') := by
  refine (new_any exU [s0U, s1U] (some ⟨g, 0, none⟩) 2 w (by simp) hat rs_smU (by decide)).mono ?_
  intro e w' hn
  exact ⟨hn.yes small_codeU, hn.bl⟩
 have HMk : Hid (∀ V, Below w.heap.size w V → Calls Tryz.prog 52 #[.string ⟨#[2, 101, 120, 0]⟩, .slice (some ⟨g, 0, none⟩) 2 2] V fun e w' => (∃ zb, e = .returned (.tuple #[.pointer (some ⟨zb, 0, none⟩), .int .i64 0, .int .i64 0])) ∧ Below V.heap.size V w') := fun V hV => by
  refine (make_by exU [s0U, s1U] (some ⟨g, 0, none⟩) 2 V (by simp) (rs_stay hat hV) rs_smU (by decide) (by decide +kernel) (by simp) (by unfold maxLen; omega) (fun e => by cases e) (fun U hU rule k hk h2 h10 => brk_small exU [s0U, s1U] (some ⟨g, 0, none⟩) 2 k rule U (by simp) (rs_stay (rs_stay hat hV) hU) rs_smU (by decide) hk h2 h10 ty_smU)).mono ?_
  intro e w' hn
  obtain ⟨zb, v, M, h1, _⟩ := hn.yes small_codeU
  exact ⟨⟨zb, h1⟩, hn.bl⟩
 clear hat
 go_enter Tryz.func18, Tryz.ntmps18
 go_wp2_with (first
  | (go_at_call 4; refine HNw.out.mono ?_; rintro e1 w1 ⟨⟨ord, Z, RW, NM, C, m, cnt, p, cp, f, rfl, hz⟩, hB1⟩; have HZ1 := hide' hz; have HB1 := hide' hB1; clear hz hB1)
  | (go_at_call 52; refine (HMk.out _ HB1.out).mono ?_; rintro e2 w2 ⟨⟨zb, rfl⟩, hB2⟩; have HZ2 := hide' (HZ1.out.step hB2); have HB2 := hide' (bstep HB1.out hB2 HB1.out.size); clear hB2))
 go_ret3
 exact ⟨ord, Z, RW, NM, C, m, cnt, p, cp, f, zb, rfl, HZ2.out, HB2.out⟩
set_option maxRecDepth 100000 in
set_option maxHeartbeats 8000000 in
theorem aliveU_any (w : World) : Calls Tryz.prog 5 #[] w fun r w' => r = .returned (.bool true) ∧ Below w.heap.size w w' := by
 have HSm := hide' (smallU_any w)
 have HFr := hide' (fun V => freshU_any V)
 go_enter Tryz.func5, Tryz.ntmps5
 go_wp2_with (first
  | (go_at_call 19; refine HSm.out.mono ?_; rintro e1 w1 ⟨rfl, hr1, hB1⟩; have HR1 := hide' hr1; have HB1 := hide' hB1; clear hr1 hB1)
  | (go_at_call 18; refine (bothU_any _ _ HR1.out).mono ?_; rintro e2 w2 ⟨ord, Z, RW, NM, C, m, cnt, p, cp, f, zb, rfl, hz, hB2⟩; have HZ2 := hide' hz; have HB2 := hide' (bstep HB1.out hB2 HB1.out.size); clear hz hB2)
  | (go_at_call 20; refine (HFr.out _).mono ?_; rintro e3 w3 ⟨rfl, hB3⟩; have HZ3 := hide' (HZ2.out.step hB3); have HB3 := hide' (bstep HB2.out hB3 HB2.out.size); clear hB3; obtain ⟨w4, hw4⟩ : ∃ v, w3.alloc (.cells #[.string ⟨#[1, 97, 2, 101, 120, 0]⟩, .int .i64 1, .int .i64 1, .int .i64 60, .string ⟨#[1, 2, 3, 4]⟩] 29) = v := ⟨_, rfl⟩; have HB40 : Hid (Below w3.heap.size w3 w4) := hw4 ▸ (Below.refl _ w3).alloc (Nat.le_refl _) _; have HZ4 := hide' (HZ3.out.step HB40.out); have HB4 := hide' (bstep HB3.out HB40.out HB3.out.size); have HR4 : Hid (RsAt w4 (some ⟨w3.heap.size, 0, none⟩) [frU]) := rs_oneU (hw4 ▸ World.alloc_heap_new w3 _ : Bx w4 w3.heap.size _ 29))
  | (go_at_call 7; refine (asksU_any _ _ _ _ _).mono ?_; rintro e5 w5 ⟨q5, rfl, hq5, hB5⟩; have HQ5 : Hid (AskU w5 q5 exU (some ⟨w3.heap.size, 0, none⟩) [frU]) := ⟨hq5, rsAt_below HR4.out hB5, by decide, (fun r hr => by rw [List.mem_singleton.1 hr]; exact gu_frU), (fun r hr => by rw [List.mem_singleton.1 hr]; rfl), by simp⟩; have HZ5 := hide' (HZ4.out.step hB5); have HB5 := hide' (bstep HB4.out hB5 HB4.out.size); clear hq5 hB5; have HApp : Hid (Calls Tryz.prog 8 #[.pointer (some ⟨Z, 0, none⟩), .agg #[.int .i64 9, .bool false, .int .i64 5, .bool false, .bool false, .bool false, .bool false, .bool false, .bool false, .int .i64 0, .slice (some ⟨q5, 0, none⟩) 1 1, .slice none 0 0, .slice (some ⟨w3.heap.size, 0, none⟩) 1 1, .slice none 0 0]] w5 (apE w5 exU exU Z (ord.map (rAt [s0U, s1U])) [frU])) := applyU_any 1 HZ5.out HQ5.out (fun r hr => by rw [List.mem_singleton.1 hr]; exact ⟨by decide, by decide⟩))
  | (go_at_call 8; refine HApp.out.mono ?_; intro e6 w6 hap; obtain ⟨N, ord2, Z2, RW2, NM2, C2, m2, cnt2, p2, cp2, f2, rfl, hz2, hNl, hser, hB6⟩ := small_apU (HZ5.out.laid.perm) hap; have HY6 := hide' hz2; have HZ6 := hide' (HZ5.out.step hB6); have HB6 := hide' (bstep HB5.out hB6 HB5.out.size); have HNl := hide' hNl; have HSer := hide' hser; have HS1 : Hid (serL (ord.map (rAt [s0U, s1U])) = 1) := (by obtain ⟨_, _, k3⟩ := HZ5.out.soaIn; obtain ⟨k1, _⟩ := perm_twoU HZ5.out.laid.perm; unfold Hid; rw [k3, k1, small_ser1]; rfl); clear hap hz2 hB6 hNl hser)
  | (go_at_call 6; refine (zRecords_any HY6.out).mono ?_; rintro e7 w7 ⟨⟨v7, rfl, ho7⟩, hB7⟩; obtain ⟨g7, c7, rfl⟩ := own_some ho7 HY6.out.pos; have HY7 := hide' (HY6.out.step hB7); have HZ7 := hide' (HZ6.out.step hB7); have HB7 := hide' (bstep HB6.out hB7 HB6.out.size); rw [HNl.out]; clear ho7 hB7)
  | (go_at_call 21; with_reducible refine (zSerial_any HY7.out).mono ?_; rintro e8 w8 ⟨rfl, hB8⟩; have HZ8 := hide' (HZ7.out.step hB8); have HB8 := hide' (bstep HB7.out hB8 HB7.out.size); rw [HSer.out]; clear hB8)
  | (go_at_call 21; with_reducible refine (zSerial_any HZ8.out).mono ?_; rintro e9 w9 ⟨rfl, hB9⟩; have HB9 := hide' (bstep HB8.out hB9 HB8.out.size); rw [HS1.out]; clear hB9))
 go_ret
 exact ⟨rfl, HB9.out⟩
end Go.Proofs.YtoabnpdoicbpiaaGreat
namespace Go.Proofs.YtoabnpdoicbpiaaGreat
set_option linter.unusedVariables false
set_option linter.unusedSimpArgs false
open Go.RowKit Go.Shelf Go.Maps Go.Proofs.YtoabnpdoicbpiaaGreat.Nm Go.Proofs.YtoabnpdoicbpiaaGreat.Zs Go.Proofs.YtoabnpdoicbpiaaGreat.Ud
theorem six_fold : ∀ (A E : List Rn), (∀ e ∈ E, e.t ≠ 6) → (∀ e ∈ A, e.t ≠ 6) → ∀ e ∈ A.foldl addU E, e.t ≠ 6
 | [], E, h, _ => h
 | r :: A, E, h, hA => six_fold A (addU E r) (by
         unfold addU
         split
         ·intro e he
          unfold putU at he
          rcases List.mem_append.1 he with q | q
          ·exact h e (mem_outK.1 q).1
          ·rw [List.mem_singleton.1 q]
           exact hA r List.mem_cons_self
         ·exact h) (fun e he => hA e (List.mem_cons_of_mem _ he))
theorem twiceU {T T2 N A : List Rn} (hn : (T.map senS).Nodup) (h6 : (soaL T).t = 6) (hA : ∀ r ∈ A, r.t ≠ 5 ∧ r.t ≠ 6) (hN : N.Perm (soaN (soaL T) :: listU (A.foldl addU (noS T)))) (hT : T2.Perm N) : T2.Perm (soaL T2 :: listU (A.foldl addU (noS T2))) := by
 have hp := hT.trans hN
 have hE6 : ∀ e ∈ listU (A.foldl addU (noS T)), e.t ≠ 6 := fun e he => by
  obtain ⟨r, hr, rfl⟩ := List.mem_map.1 he
  rw [recU_t]
  exact six_fold A (noS T) (fun e he => by simpa using (List.mem_filter.1 he).2) (fun e he => (hA e he).2) r hr
 have e1 : noS (soaN (soaL T) :: listU (A.foldl addU (noS T))) = listU (A.foldl addU (noS T)) := by
  unfold noS
  rw [List.filter_cons, if_neg (by simp [soaN, h6])]
  exact List.filter_eq_self.2 (fun e he => by simpa using hE6 e he)
 have e2 : (noS T2).Perm (listU (A.foldl addU (noS T))) := by
  have := hp.filter (fun r => !decide (r.t = 6))
  change (noS T2).Perm (noS _) at this
  rwa [e1] at this
 have e3 : soaL T2 = soaN (soaL T) := by
  unfold soaL
  cases hf : T2.find? (fun r => decide (r.t = 6)) with
  | none =>
   have := List.find?_eq_none.1 hf (soaN (soaL T)) (hp.mem_iff.2 List.mem_cons_self)
   simp [soaN, h6] at this
  | some r =>
   have h2 : r.t = 6 := by simpa using List.find?_some hf
   rcases List.mem_cons.1 (hp.mem_iff.1 (List.mem_of_find?_eq_some hf)) with q | q
   ·rw [q]; rfl
   ·exact absurd h2 (hE6 r q)
 have e4 : (listU (A.foldl addU (noS T2))).Perm (noS T2) := add_twice (E0 := noS T) (hn.sublist (List.filter_sublist.map _)) (fun r hr => (hA r hr).1) e2
 rw [e3]
 exact hp.trans ((e2.symm.trans e4.symm).cons _)
section
variable {n : Nat} {W : World} {apex : ByteArray} {L : List Rn} {ord : List Nat} {Z RW NM C m cnt : Nat} {p : Option Addr} {cp : Nat} {f : ByteArray → Option Nat}
theorem first_ap {A : List Rn} {w' : World} {r : Ending} (h : Zon n W apex L ord Z RW NM C m cnt p cp f) (hA : ∀ r ∈ A, r.t ≠ 5 ∧ r.t ≠ 6) (ha : apE W apex apex Z (ord.map (rAt L)) A r w') : (∃ c : Int, (c != 0) = true ∧ r = .returned (.tuple #[.pointer none, .int .i64 c])) ∨
  ∃ n2 N ord2 Z2 RW2 NM2 C2 m2 cnt2 p2 cp2 f2, r = .returned (.tuple #[.pointer (some ⟨Z2, 0, none⟩), .int .i64 0]) ∧ Hid (Zon n2 w' apex N ord2 Z2 RW2 NM2 C2 m2 cnt2 p2 cp2 f2) ∧ Hid (ckU apex apex A = 0 ∧ (ord2.map (rAt N)).Perm (soaL (ord2.map (rAt N)) :: listU (A.foldl addU (noS (ord2.map (rAt N)))))) := by
 obtain ⟨hb, ha⟩ := ha
 obtain ⟨k1, k2, _⟩ := h.soaIn
 rcases ha with ⟨h1, h2⟩ | ⟨h1, h2, h3⟩ | ⟨h0, _, N, hN, ⟨h1, h2⟩ | ⟨ord2, Z2, RW2, NM2, C2, m2, cnt2, p2, cp2, f2, h1, h2⟩⟩
 ·exact .inl ⟨_, by simpa using h1, h2⟩
 ·exact .inr ⟨n, L, ord, Z, RW, NM, C, m, cnt, p, cp, f, h3, h.step hb, h1, h2⟩
 ·exact .inl ⟨5, by decide, h2⟩
 ·exact .inr ⟨_, N, ord2, Z2, RW2, NM2, C2, m2, cnt2, p2, cp2, f2, h1, h2, h0, twiceU h.pairs.1 k2 hA hN h2.laid.perm⟩
theorem second_ap {top : ByteArray} {T A : List Rn} {w' : World} {r : Ending} {Z : Nat} (hc : ckU apex top A = 0 ∧ T.Perm (soaL T :: listU (A.foldl addU (noS T)))) (ha : apE W top apex Z T A r w') : r = .returned (.tuple #[.pointer (some ⟨Z, 0, none⟩), .int .i64 0]) := by
 obtain ⟨_, ha⟩ := ha
 rcases ha with ⟨h1, _⟩ | ⟨_, _, h3⟩ | ⟨_, h1, _⟩
 ·exact absurd hc.1 h1
 ·exact h3
 ·exact absurd hc.2 h1
end
end Go.Proofs.YtoabnpdoicbpiaaGreat
namespace Go.Proofs.YtoabnpdoicbpiaaGreat
set_option linter.unusedVariables false
set_option linter.unusedSimpArgs false
open Go.RowKit Go.Shelf Go.Maps Go.Proofs.YtoabnpdoicbpiaaGreat.Nm Go.Proofs.YtoabnpdoicbpiaaGreat.Zs Go.Proofs.YtoabnpdoicbpiaaGreat.Ud
def adB (r : Rn) : Bool := r.c == 1 && r.t != 5 && r.t != 6
theorem ad_snoc (A : List Rn) (r : Rn) : (A ++ [r]).filter adB = if adB r = true then A.filter adB ++ [r] else A.filter adB := by
 rw [List.filter_append]
 by_cases h : adB r = true
 ·rw [if_pos h, List.filter_cons, if_pos h]
  rfl
 ·rw [if_neg h, List.filter_cons, if_neg h]
  simp
theorem ad_facts {CH : List Rn} {r : Rn} (h : r ∈ CH.filter adB) : r ∈ CH ∧ r.c = 1 ∧ r.t ≠ 5 ∧ r.t ≠ 6 := by
 obtain ⟨h1, h2⟩ := List.mem_filter.1 h
 unfold adB at h2
 simp at h2
 exact ⟨h1, h2.1.1, h2.1.2, h2.2⟩
theorem mem_rAt {L : List Rn} (hs : ∀ j, j < L.length → rSm (rAt L j)) : ∀ x ∈ L, rSm x := fun x hx => by
 obtain ⟨j, hj, rfl⟩ := List.getElem_of_mem hx
 rw [rAt_get hj]
 exact hs j hj
set_option maxRecDepth 100000 in
set_option maxHeartbeats 16000000 in
theorem updateTwice_any (top : ByteArray) (L CH : List Rn) (p1 p2 : Option Addr) (c1 c2 : Nat) (w : World) (hap : top.size ≤ 1048576) (hL : L.length ≤ 1048576) (hat : RsAt w p1 L) (hs : ∀ j, j < L.length → rSm (rAt L j)) (hC : CH.length ≤ 1048576) (hct : RsAt w p2 CH) (hcs : ∀ j, j < CH.length → rSm (rAt CH j)) :
  Calls Tryz.prog 3 #[.string top, .slice p1 L.length c1, .slice p2 CH.length c2] w fun r w' => r = .returned (.bool true) ∧ Below w.heap.size w w' := by
 have HNw := hide' (new_any top L p1 c1 w hL hat hs hap)
 have HAl := hide' (fun V => aliveU_any V)
 by_cases hz : (mkC top L).2 ≠ 0
 ·obtain ⟨a, c0, hac⟩ : ∃ a c, mkC top L = (a, c) := ⟨_, _, rfl⟩
  rw [hac] at hz
  have hc0 : (c0 != 0) = true := by simpa using hz
  have HN2 : Hid (∀ (V : World) (r : Ending) (w' : World), NwE top L V r w' → r = .returned (.tuple #[.pointer none, .int .i64 a, .int .i64 c0]) ∧ Below V.heap.size V w') := fun V r w' h => by
   have := h.no (by rw [hac]; exact hz)
   rw [hac] at this
   exact ⟨this, h.bl⟩
  clear hz hac hat hs hct hcs
  go_enter Tryz.func3, Tryz.ntmps3
  go_wp2_with (first
   | (go_at_call 4; refine HNw.out.mono ?_; intro e w2 hnw; obtain ⟨rfl, hB2⟩ := HN2.out _ _ _ hnw; have HB2 := hide' hB2; clear hnw hB2)
   | (go_at_call 5; refine (HAl.out _).mono ?_; rintro e w3 ⟨rfl, hB3⟩; have HB3 := hide' (bstep HB2.out hB3 HB2.out.size); clear hB3))
  go_ret
  exact ⟨rfl, HB3.out⟩
 ·have hz0 : (mkC top L).2 = 0 := by simpa using hz
  have HN2 : Hid (∀ (V : World) (r : Ending) (w' : World), NwE top L V r w' → ∃ ord Z RW NM C m cnt p cp f, r = .returned (.tuple #[.pointer (some ⟨Z, 0, none⟩), .int .i64 0, .int .i64 0]) ∧ Zon V.heap.size w' top L ord Z RW NM C m cnt p cp f ∧ Below V.heap.size V w') := fun V r w' h => by
   obtain ⟨ord, Z, RW, NM, C, m, cnt, p, cp, f, h1, h2⟩ := h.yes hz0
   exact ⟨ord, Z, RW, NM, C, m, cnt, p, cp, f, h1, h2, h.bl⟩
  have HCt := hide' hct
  have HCs := hide' (mem_rAt hcs)
  have HTp : Hid (top.size ≤ 1048576) := hap
  clear hz hat hs hz0 hct hcs
  go_enter Tryz.func3, Tryz.ntmps3
  go_wp2_with (first
   | (go_at_call 4; refine HNw.out.mono ?_; intro e w2 hnw; obtain ⟨ord, Z, RW, NM, C, m, cnt, pz, cz, f, rfl, hzo, hB2⟩ := HN2.out _ _ _ hnw; have HZ2 := hide' hzo; have HB2 := hide' hB2; clear hnw hB2 hzo)
   | (go_at_call 5; refine (HAl.out _).mono ?_; rintro e w3 ⟨rfl, hB3⟩; have HZ3 := hide' (HZ2.out.step hB3); have HB3 := hide' (bstep HB2.out hB3 HB2.out.size); clear hB3))
  go_loopw [10, 39] (fun v kv wr => ∃ (k : Nat) (p : Option Addr) (c : Nat), v = .slice p ((CH.take k).filter adB).length c ∧ kv = .int .i64 (k : Int) ∧ k ≤ CH.length ∧ Hid (LiU w3 wr (.slice p ((CH.take k).filter adB).length c) ((CH.take k).filter adB)) ∧ Hid (Below w3.heap.size w3 wr)) (fun _ kv _ => CH.length - (intOf kv).toNat)
  case atStart => exact ⟨0, none, 0, rfl, rfl, Nat.zero_le _, World.ownsRow_nil _ _ _ _, Below.refl _ _⟩
  case round =>
   obtain ⟨k, p, c, rfl, rfl, hk, HL, HB⟩ := hrel
   by_cases hlt : k < CH.length
   ·obtain ⟨gb, ob, hp2, hgb, e0, e1, e2, e3, e4⟩ := rs_stay (rs_stay HCt.out HB3.out) HB.out k hlt
    have HTk : Hid (CH.take (k + 1) = CH.take k ++ [CH[k]]) := List.take_succ_eq_append_getElem hlt
    obtain ⟨x, hx⟩ : ∃ x, CH[k] = x := ⟨_, rfl⟩
    rw [hx] at e0 e1 e2 e3 e4 HTk
    obtain ⟨o, t, cc, l, d⟩ := x
    simp only at e0 e1 e2 e3 e4
    subst hp2
    clear hx
    obtain ⟨wa, hwa⟩ : ∃ v, wr.alloc (.cells #[.string o, .int .i64 t, .int .i64 cc, .int .i64 l, .string d] 29) = v := ⟨_, rfl⟩
    have HGa : Hid (wr.grownBy wa none) := hwa ▸ World.grownBy_alloc wr _ none
    have HXa : Hid (Bx wa wr.heap.size #[.string o, .int .i64 t, .int .i64 cc, .int .i64 l, .string d] 29) := hwa ▸ World.alloc_heap_new wr _
    have HBa : Hid (Below w3.heap.size w3 wa) := HB.out.grown HGa.out HB.out.size (fun k e => by cases e)
    have HLa := hide' (HL.out.idleU HGa.out)
    obtain ⟨v0, v1, v2, v3, v4⟩ := bx5U HXa.out
    have HF := hide' (ad_snoc (CH.take k) ⟨o, t, cc, l, d⟩)
    rw [← HTk.out] at HF
    have HLn : Hid (((CH.take k).filter adB).length ≤ k) := Nat.le_trans (List.length_filter_le _ _) (by rw [List.length_take]; omega)
    obtain ⟨AK, hAK⟩ : ∃ A, (CH.take k).filter adB = A := ⟨_, rfl⟩
    rw [hAK] at HLa HF HLn
    rw [hAK]
    have HAK := hide' hAK
    clear hAK
    have HSkip : Hid (adB ⟨o, t, cc, l, d⟩ = false → (CH.take (k + 1)).filter adB = AK) := fun h => by rw [HF.out, if_neg (by rw [h]; decide)]
    have HTake : Hid (adB ⟨o, t, cc, l, d⟩ = true → (CH.take (k + 1)).filter adB = AK ++ [⟨o, t, cc, l, d⟩]) := fun h => by rw [HF.out, if_pos h]
    have HSk : Hid (adB ⟨o, t, cc, l, d⟩ = false → ∃ (k2 : Nat) (p2 : Option Addr) (c2 : Nat), Value.slice p AK.length c = .slice p2 ((CH.take k2).filter adB).length c2 ∧ Value.int .i64 ((k + 1 : Nat) : Int) = .int .i64 (k2 : Int) ∧ k2 ≤ CH.length ∧ Hid (LiU w3 wa (.slice p2 ((CH.take k2).filter adB).length c2) ((CH.take k2).filter adB)) ∧ Hid (Below w3.heap.size w3 wa)) := fun h => by
     have h1 := HSkip.out h
     exact ⟨k + 1, p, c, by rw [h1], rfl, by omega, by rw [h1]; exact HLa.out, HBa.out⟩
    have hk1 : IntKind.i64.wrap ((k : Int) + 1) = ((k + 1 : Nat) : Int) := by rw [IntWalk.i64_in] <;> omega
    by_cases h1 : cc = 1
    ·have b1 : (cc == 1) = true := by rw [h1]; rfl
     by_cases h5 : t = 5
     ·have n5 : (t != 5) = false := by rw [h5]; rfl
      have hf : adB ⟨o, t, cc, l, d⟩ = false := by simp [adB, h5]
      have HS := hide' (HSk.out hf)
      clear h1 h5 hf
      go_wp2_with fail
      go_roundw
      case rel => exact HS.out
      case measure => simp [intOf]; omega
     ·have n5 : (t != 5) = true := by simpa using h5
      by_cases h6 : t = 6
      ·have n6 : (t != 6) = false := by rw [h6]; rfl
       have hf : adB ⟨o, t, cc, l, d⟩ = false := by simp [adB, h6]
       have HS := hide' (HSk.out hf)
       clear h1 h5 h6 hf
       go_wp2_with fail
       go_roundw
       case rel => exact HS.out
       case measure => simp [intOf]; omega
      ·have n6 : (t != 6) = true := by simpa using h6
       have hf : adB ⟨o, t, cc, l, d⟩ = true := by simp [adB, h1, h5, h6]
       have HTa := hide' (HTake.out hf)
       obtain ⟨wc, hwc⟩ : ∃ v, wa.alloc (.cells #[.string o, .int .i64 t, .int .i64 cc, .int .i64 l, .string d] 29) = v := ⟨_, rfl⟩
       have HGc : Hid (wa.grownBy wc none) := hwc ▸ World.grownBy_alloc wa _ none
       have HRc : Hid (RsAt wc (some ⟨wa.heap.size, 0, none⟩) [⟨o, t, cc, l, d⟩]) := rs_oneU (hwc ▸ World.alloc_heap_new wa _ : Bx wc wa.heap.size _ 29)
       have HLc : Hid (wc.ownsRow w3.heap.size 29 5 (.slice p AK.length c) AK.length (rce5 AK)) := (HLa.out.idleU HGc.out : LiU w3 wc (.slice p AK.length c) AK)
       have HBc : Hid (Below w3.heap.size w3 wc) := HBa.out.grown HGc.out HBa.out.size (fun k e => by cases e)
       clear h1 h5 h6 hf
       go_wp2_with (at_builtin; refine wpList_append_recsM rfl _ _ rfl w3.heap.size _ AK.length (rce5 AK) rfl HLc.out (some ⟨wa.heap.size, 0, none⟩) [⟨o, t, cc, l, d⟩] 1 rfl HRc.out (fun h => absurd h (Option.some_ne_none _)) (by have := HLn.out; simp only [List.length_cons, List.length_nil]; omega) HBc.out.size ?_; intro v9 w9 ho9 hg9; have HL9 := hide' (own_snocU ho9); have HG9 := hide' hg9; obtain ⟨p9, c9, hv9, -⟩ := own_shape ho9; subst hv9; clear ho9 hg9)
       have HB9 : Hid (Below w3.heap.size w3 w9) := HBc.out.grown HG9.out HBc.out.size (fun q e => (World.ownsRow.lt HLc.out _ e).1)
       go_roundw
       case rel => exact ⟨k + 1, p9, c9, (by rw [HTa.out]; simp), rfl, by omega, (by rw [HTa.out]; have := HL9.out; unfold Hid; simpa using this), HB9.out⟩
       case measure => simp [intOf]; omega
    ·have b1 : (cc == 1) = false := by rw [beq_eq_false_iff_ne]; exact h1
     have hf : adB ⟨o, t, cc, l, d⟩ = false := by simp [adB, h1]
     have HS := hide' (HSk.out hf)
     clear h1 hf
     go_wp2_with fail
     go_roundw
     case rel => exact HS.out
     case measure => simp [intOf]; omega
   ·have hkC : k = CH.length := by omega
    subst hkC
    rw [List.take_length] at HL
    rw [List.take_length]
    have HADs : Hid (∀ r ∈ CH.filter adB, rSm r) := fun r hr => HCs.out r (ad_facts hr).1
    have HADc : Hid (∀ r ∈ CH.filter adB, r.c = 1) := fun r hr => (ad_facts hr).2.1
    have HAD56 : Hid (∀ r ∈ CH.filter adB, r.t ≠ 5 ∧ r.t ≠ 6) := fun r hr => (ad_facts hr).2.2
    have HADl : Hid ((CH.filter adB).length ≤ 1048576) := Nat.le_trans (List.length_filter_le _ _) hC
    have HAdr : Hid (RsAt wr p (CH.filter adB)) := rsAt_ownZ HL.out rfl
    obtain ⟨AD, hAD⟩ : ∃ A, CH.filter adB = A := ⟨_, rfl⟩
    rw [hAD] at HADs HADc HAD56 HADl HAdr
    rw [hAD]
    clear hAD HL
    have HZr := hide' (HZ3.out.step HB.out)
    have HBr : Hid (Below w.heap.size w wr) := bstep HB3.out HB.out HB3.out.size
    have HTl := hide' HZr.out.laid.tlen
    have hfw := HZr.out.few
    have HRec : Hid (∀ V n N ord Z RW NM C m cnt p cp f, Zon n V top N ord Z RW NM C m cnt p cp f → Calls Tryz.prog 6 #[.pointer (some ⟨Z, 0, none⟩)] V fun r w' => ∃ g c, r = .returned (.slice (some ⟨g, 0, none⟩) N.length c) ∧ RsAt w' (some ⟨g, 0, none⟩) (ord.map (rAt N)) ∧ Below V.heap.size V w') := fun V n N ord Z RW NM C m cnt p cp f h => by
     refine (zRecords_any h).mono ?_
     rintro r w' ⟨⟨v, rfl, ho⟩, hb⟩
     obtain ⟨g, c, rfl⟩ := own_some ho h.pos
     exact ⟨g, c, rfl, rsAt_ownZ ho h.laid.tlen.symm, hb⟩
    have T1 : Hid True := trivial
    go_wp2_with (first
     | (go_at_call 6; have _ := T1; clear T1; refine (HRec.out _ _ _ _ _ _ _ _ _ _ _ _ _ HZr.out).mono ?_; rintro e4 w4 ⟨g1, cg1, rfl, hr, hB4⟩; have HZ4 := hide' (HZr.out.step hB4); have HT4 := hide' hr; have HB4 := hide' (bstep HBr.out hB4 HBr.out.size); have HAd4 := hide' (rsAt_below HAdr.out hB4); clear hr hB4)
     | (go_at_call 7; refine (asksU_any top p AD.length c _).mono ?_; rintro e5 w5 ⟨q5, rfl, hq5, hB5⟩; have HQ5 : Hid (AskU w5 q5 top p AD) := ⟨hq5, rsAt_below HAd4.out hB5, HTp.out, HADs.out, HADc.out, HADl.out⟩; have HZ5 := hide' (HZ4.out.step hB5); have HT5 := hide' (rs_stay HT4.out hB5); have HB5 := hide' (bstep HB4.out hB5 HB4.out.size); clear hq5 hB5; obtain ⟨w60, hw60⟩ : ∃ v, w5.alloc (.cells #[.int .i64 9, .bool false, .int .i64 5, .bool false, .bool false, .bool false, .bool false, .bool false, .bool false, .int .i64 0, .slice (some ⟨q5, 0, none⟩) 1 1, .slice none 0 0, .slice p AD.length c, .slice none 0 0] 33) = v := ⟨_, rfl⟩; have HX60 : Hid (Bx w60 w5.heap.size #[.int .i64 9, .bool false, .int .i64 5, .bool false, .bool false, .bool false, .bool false, .bool false, .bool false, .int .i64 0, .slice (some ⟨q5, 0, none⟩) 1 1, .slice none 0 0, .slice p AD.length c, .slice none 0 0] 33) := hw60 ▸ World.alloc_heap_new w5 _; have HB60 : Hid (Below w5.heap.size w5 w60) := hw60 ▸ (Below.refl _ w5).alloc (Nat.le_refl _) _; have n13 : w60.cell? ⟨w5.heap.size, 13, none⟩ = some (.slice none 0 0) := HX60.out.cell rfl; have fr13 : w60.frozen? ⟨w5.heap.size, 13, none⟩ = false := HX60.out.free 13; obtain ⟨w6, hw6⟩ : ∃ v, w60.setCell ⟨w5.heap.size, 13, none⟩ (.slice none 0 0) = v := ⟨_, rfl⟩; have HBa : Hid (Below w5.heap.size w5 w6) := hw6 ▸ HB60.out.setCell (p := ⟨w5.heap.size, 13, none⟩) (Nat.le_refl _) _; have HX6 : Hid (Bx w6 w5.heap.size #[.int .i64 9, .bool false, .int .i64 5, .bool false, .bool false, .bool false, .bool false, .bool false, .bool false, .int .i64 0, .slice (some ⟨q5, 0, none⟩) 1 1, .slice none 0 0, .slice p AD.length c, .slice none 0 0] 33) := hw6 ▸ HX60.out.set 13 (.slice none 0 0); have HQ6 := hide' (HQ5.out.step HBa.out); have HZ6 := hide' (HZ5.out.step HBa.out); have HT6 := hide' (rs_stay HT5.out HBa.out); have HB6 := hide' (bstep HB5.out HBa.out HB5.out.size); obtain ⟨m0, m1, m2', m3, m4, m5, m6, m7, m8, m9, m10, m11, m12, m13⟩ := bx14U HX6.out; have T2 : Hid True := trivial)
     | (go_at_call 8; have _ := T2; clear T2; refine (show Calls Tryz.prog 8 #[.pointer (some ⟨Z, 0, none⟩), .agg #[.int .i64 9, .bool false, .int .i64 5, .bool false, .bool false, .bool false, .bool false, .bool false, .bool false, .int .i64 0, .slice (some ⟨q5, 0, none⟩) 1 1, .slice none 0 0, .slice p AD.length c, .slice none 0 0]] w6 (apE w6 top top Z (ord.map (rAt L)) AD) from applyU_any c HZ6.out HQ6.out HAD56.out).mono ?_; intro e7 w7 hap; have hB7 := hap.1; have HZ7 := hide' (HZ6.out.step hB7); have HT7 := hide' (rs_stay HT6.out hB7); have HX7 := hide' (HX6.out.below hB7 HX6.out.lt); have HQ7 := hide' (HQ6.out.step hB7); have HB7 := hide' (bstep HB6.out hB7 HB6.out.size); clear hB7 m0 m1 m2' m3 m4 m5 m6 m7 m8 m9 m10 m11 m12 m13; have T3 : Hid True := trivial; have hfi := first_ap HZ6.out HAD56.out hap; clear hap; rcases hfi with ⟨c7, nc7, rfl⟩ | ⟨n2, N2, ord2, Z2, RW2, NM2, C2, m2, cnt2, p9, cp2, f2, rfl, HY7, HCk7⟩)
     | (go_at_call 6; have _ := T3; clear T3; refine (HRec.out _ _ _ _ _ _ _ _ _ _ _ _ _ HZ7.out).mono ?_; rintro e8 w8 ⟨g2, cg2, rfl, hr8, hB8⟩; have HZ8 := hide' (HZ7.out.step hB8); have HT8 := hide' (rs_stay HT7.out hB8); have HT8b := hide' hr8; have HX8 := hide' (HX7.out.below hB8 HX7.out.lt); have HQ8 := hide' (HQ7.out.step hB8); have HB8 := hide' (bstep HB7.out hB8 HB7.out.size); (try (have HY8 := hide' (HY7.out.step hB8))); clear hr8 hB8; have T4 : Hid True := trivial)
     | (go_at_call 9; have _ := T4; clear T4; refine (sameRecords2 (some ⟨g2, 0, none⟩) (some ⟨g1, 0, none⟩) L.length cg2 cg1 (ord.map (rAt L)) w8 HT8b.out HT8.out HTl.out.symm (by omega)).mono ?_; rintro e9 w9 ⟨rfl, m9', hw9⟩; have hq9 : Below w8.heap.size w8 w9 := hw9 ▸ below_quietZ m9'; have HX9 := hide' (HX8.out.below hq9 HX8.out.lt); have HQ9 := hide' (HQ8.out.step hq9); have HB9 := hide' (bstep HB8.out hq9 HB8.out.size); (try (have HY9 := hide' (HY8.out.step hq9))); clear hq9 hw9; obtain ⟨m0, m1, m2', m3, m4, m5, m6, m7, m8, m9, m10, m11, m12, m13⟩ := bx14U HX9.out; have T5 : Hid True := trivial)
     | (go_at_call 8; have _ := T5; clear T5; refine (show Calls Tryz.prog 8 #[.pointer (some ⟨Z2, 0, none⟩), .agg #[.int .i64 9, .bool false, .int .i64 5, .bool false, .bool false, .bool false, .bool false, .bool false, .bool false, .int .i64 0, .slice (some ⟨q5, 0, none⟩) 1 1, .slice none 0 0, .slice p AD.length c, .slice none 0 0]] w9 (apE w9 top top Z2 (ord2.map (rAt N2)) AD) from applyU_any c HY9.out HQ9.out HAD56.out).mono ?_; intro e10 w10 hap; have hB10 := hap.1; obtain rfl := second_ap HCk7.out hap; have HY10 := hide' (HY9.out.step hB10); have HB10 := hide' (bstep HB9.out hB10 HB9.out.size); clear hB10 hap m0 m1 m2' m3 m4 m5 m6 m7 m8 m9 m10 m11 m12 m13; have T6 : Hid True := trivial)
     | (go_at_call 6; have _ := T6; clear T6; refine (HRec.out _ _ _ _ _ _ _ _ _ _ _ _ _ HY10.out).mono ?_; rintro e11 w11 ⟨g3, cg3, rfl, hr11, hB11⟩; have HY11 := hide' (HY10.out.step hB11); have HT11 := hide' hr11; have HB11 := hide' (bstep HB10.out hB11 HB10.out.size); clear hr11 hB11; have T7 : Hid True := trivial)
     | (go_at_call 6; have _ := T7; clear T7; refine (HRec.out _ _ _ _ _ _ _ _ _ _ _ _ _ HY11.out).mono ?_; rintro e12 w12 ⟨g4, cg4, rfl, hr12, hB12⟩; have HT12 := hide' (rs_stay HT11.out hB12); have HT12b := hide' hr12; have HTl2 := hide' HY11.out.laid.tlen; have hfw2 := HY11.out.few; have HB12 := hide' (bstep HB11.out hB12 HB11.out.size); clear hr12 hB12; have T8 : Hid True := trivial)
     | (go_at_call 9; have _ := T8; clear T8; refine (sameRecords2 (some ⟨g3, 0, none⟩) (some ⟨g4, 0, none⟩) N2.length cg3 cg4 (ord2.map (rAt N2)) w12 HT12.out HT12b.out HTl2.out.symm (by omega)).mono ?_; rintro e13 w13 ⟨rfl, m13', hw13⟩; have hq13 : Below w12.heap.size w12 w13 := hw13 ▸ below_quietZ m13'; have HB13 := hide' (bstep HB12.out hq13 HB12.out.size); clear hq13 hw13))
    ·go_ret
     exact ⟨rfl, HB9.out⟩
    ·go_ret
     exact ⟨rfl, HB13.out⟩
theorem updateTwice_fr (top : ByteArray) (L : List Rn) (p1 : Option Addr) (c1 : Nat) (CH : List Rn) (p2 : Option Addr) (c2 : Nat) (w : World) (hap : top.size ≤ 1048576) (hL : L.length ≤ 1048576) (hat : RsAt w p1 L) (hs : ∀ j, j < L.length → rSm (rAt L j)) (hC : CH.length ≤ 1048576) (hct : RsAt w p2 CH) (hcs : ∀ j, j < CH.length → rSm (rAt CH j)) :
  Calls Tryz.prog 3 #[.string top, .slice p1 L.length c1, .slice p2 CH.length c2] w fun r w' => r = .returned (.bool true) ∧ Below w.heap.size w w' := updateTwice_any top L CH p1 p2 c1 c2 w hap hL hat hs hC hct hcs
end Go.Proofs.YtoabnpdoicbpiaaGreat
namespace Go.Proofs.YtoabnpdoicbpiaaGreat.updateTwiceP
set_option linter.unusedVariables false
open Go.ChangeShapes Go.WideShapes Go.ChangeAt Go.RowKit Go.Deep
open Go.ChangeMaps (open_string shut_string)
theorem own : ownKnob Tryz.prog.godebug = none := by kernel_rfl
theorem laidOut : laidOutB Tryz.prog = true := by kernel_rfl
set_option maxRecDepth 100000 in
theorem contract (H : Type) (enc : TypeId × Value → H) (W : World) (base : Nat) (args : Array Value) (ds gs : List (DataW H)) (before : List MemPlace)
  (hval : ∀ (j : Nat) t v, Tryz.f3.params[j]? = some t → args[j]? = some v → Value.okWide Tryz.prog W .any base t v)
  (hW : DataW.Whole enc Tryz.prog Tryz.f3.params.toList Rows.updateTwiceSpec.vars false W args.toList ds gs before) (hk : Rows.uptoSmall H (ds ++ gs) = true) :
  Calls Tryz.prog 3 args W fun e W' => ∃ v, e = .returned v ∧ Rows.updateTwiceSpec.post enc Tryz.prog Tryz.f3 false true false false W args v W' := by
 have hW' := hW
 obtain ⟨p, q, hA0, hV, rfl, _, _⟩ := hW
 have hA : DataW.TrodAll enc Tryz.prog W 0 (fun _ => true) true Tryz.f3.params.toList args.toList ds p := hA0
 rw [Tryz.params3] at hA hval
 obtain ⟨v0, vs0, d0, ds0, p0, q0, hargs, rfl, rfl, h0, r0⟩ := trodAll_cons hA
 obtain ⟨v1, vs1, d1, ds1, p1, q1, rfl, rfl, rfl, h1, r1⟩ := trodAll_cons r0
 obtain ⟨v2, vs2, d2, ds2, p2, q2, rfl, rfl, rfl, h2, r2⟩ := trodAll_cons r1
 obtain ⟨rfl, rfl, rfl⟩ := trodAll_nil r2
 obtain rfl : args = #[v0, v1, v2] := by cases args; simp_all
 obtain ⟨rfl, rfl⟩ := trodVars_none hV
 obtain ⟨s0, rfl, rfl, rfl, m0⟩ := open_string Tryz.underlying9 (hval 0 9 v0 rfl rfl) h0
 have k1 := h1
 have lt1 : ∀ x ∈ p1, x.block < W.heap.size := by obtain ⟨m, hm⟩ := k1; exact DataW.trod_lt m _ _ _ hm
 obtain ⟨pa1, ca1, L1, rfl, hno1, hat1, hz1, hlb1, hoz1, hca1, hcm1⟩ : ∃ (a : Option Addr) (cap : Nat) (L : List Rn), v1 = .slice a L.length cap ∧ (a = none → cap = 0) ∧ RsAt W a L ∧ (∀ q ∈ L, q.o.size ≤ maxLen ∧ q.d.size ≤ maxLen) ∧ L.length ≤ Rows.uptoBulk d1 ∧ (∀ q ∈ L, q.o.size + q.d.size ≤ Rows.uptoBulk d1) ∧ L.length ≤ cap ∧ cap ≤ maxLen := by
  obtain ⟨fuel, hf⟩ := h1
  obtain ⟨z5, len5, cap5, hv5⟩ := okWide_slice Tryz.underlying22 (hval 1 22 v1 rfl rfl)
  have hc : v1.cells.toList = [v1] := by rw [hv5]; rfl
  rw [hc] at hf
  obtain ⟨a, cap, L, h1, h2, h3, h4, h5, h6⟩ := Frj.rs_openJ hf
  refine ⟨a, cap, L, h1, h2, h3, h4, h5, h6, ?_⟩
  rcases open_slice Tryz.underlying22 hf with ⟨g1, _⟩ | ⟨a', len', cap', m', n', D', Pl', g1, _, hl, hm, _⟩
  ·rw [h1] at g1
   injection g1 with g1 _
   injection g1 with g1 g2 g3
   exact ⟨by omega, by unfold maxLen; omega⟩
  ·rw [h1] at g1
   injection g1 with g1 _
   injection g1 with g1 g2 g3
   subst g3
   exact ⟨by omega, hm⟩
 have k2 := h2
 have lt2 : ∀ x ∈ p2, x.block < W.heap.size := by obtain ⟨m, hm⟩ := k2; exact DataW.trod_lt m _ _ _ hm
 obtain ⟨pa2, ca2, L2, rfl, hno2, hat2, hz2, hlb2, hoz2, hca2, hcm2⟩ : ∃ (a : Option Addr) (cap : Nat) (L : List Rn), v2 = .slice a L.length cap ∧ (a = none → cap = 0) ∧ RsAt W a L ∧ (∀ q ∈ L, q.o.size ≤ maxLen ∧ q.d.size ≤ maxLen) ∧ L.length ≤ Rows.uptoBulk d2 ∧ (∀ q ∈ L, q.o.size + q.d.size ≤ Rows.uptoBulk d2) ∧ L.length ≤ cap ∧ cap ≤ maxLen := by
  obtain ⟨fuel, hf⟩ := h2
  obtain ⟨z5, len5, cap5, hv5⟩ := okWide_slice Tryz.underlying22 (hval 2 22 v2 rfl rfl)
  have hc : v2.cells.toList = [v2] := by rw [hv5]; rfl
  rw [hc] at hf
  obtain ⟨a, cap, L, h1, h2, h3, h4, h5, h6⟩ := Frj.rs_openJ hf
  refine ⟨a, cap, L, h1, h2, h3, h4, h5, h6, ?_⟩
  rcases open_slice Tryz.underlying22 hf with ⟨g1, _⟩ | ⟨a', len', cap', m', n', D', Pl', g1, _, hl, hm, _⟩
  ·rw [h1] at g1
   injection g1 with g1 _
   injection g1 with g1 g2 g3
   exact ⟨by omega, by unfold maxLen; omega⟩
  ·rw [h1] at g1
   injection g1 with g1 _
   injection g1 with g1 g2 g3
   subst g3
   exact ⟨by omega, hm⟩
 clear hA0
 have hb : Rows.uptoBulkAll [DataW.lit (H := H) (.string s0.data.toList), d1, d2] ≤ 1048576 := by
  have : Rows.uptoBulkAll ([DataW.lit (H := H) (.string s0.data.toList), d1, d2] ++ []) ≤ 1048576 := of_decide_eq_true hk
  rwa [List.append_nil] at this
 have e0 : s0.data.toList.length = s0.size := by rw [Array.length_toList]; rfl
 have f0 : Rows.uptoBulk (DataW.lit (H := H) (.string s0.data.toList)) = s0.data.toList.length + 1 := rfl
 simp only [Rows.uptoBulkAll] at hb
 rw [f0, e0] at hb
 clear e0 f0
 refine (updateTwice_fr s0 L1 pa1 ca1 L2 pa2 ca2 W (by omega) (by omega) hat1 (fun k hk => by have := hoz1 _ (rAt_mem hk); exact ⟨by omega, by omega⟩) (by omega) hat2 (fun k hk => by have := hoz2 _ (rAt_mem hk); exact ⟨by omega, by omega⟩)).mono fun e W' ⟨he, bel⟩ => ?_
 subst he
 exact ⟨_, rfl, _, _, _, [], _, [], hW', trodAll_mk1 (shut_bool Tryz.underlying4 _), (trodAll_cons_mk (shut_string Tryz.underlying9 m0) (trodAll_cons_mk (Below.trod laidOut (by kernel_rfl) (of_decide_eq_true (by kernel_rfl)) k1 bel lt1) (trodAll_cons_mk (Below.trod laidOut (by kernel_rfl) (of_decide_eq_true (by kernel_rfl)) k2 bel lt2) trodAll_mk0))), rfl, bel.frame _, fun h => by cases h⟩
set_option maxRecDepth 100000 in
theorem lifted (os : Os) (started : os.Started) (H : Type) (enc : TypeId × Value → H) (F : Stop.Interp) :
  ReturnsInHanded {} Tryz.checked os 3 .any ((Rows.OpenSpec.upto Rows.updateTwiceSpec).pre6 enc Tryz.prog Tryz.f3 Rows.updateTwiceUptoRow.domain false) (((Rows.OpenSpec.upto Rows.updateTwiceSpec).at F).post enc Tryz.prog Tryz.f3 false true false false) := by
 refine returnsInHanded_of_cond (C := Tryz.checked) (s := Rows.OpenSpec.upto Rows.updateTwiceSpec) (k := Rows.uptoSmall) rfl own started (by kernel_rfl) Tryz.func3
  (OpenSpec.witness (enc := enc) (C := Tryz.checked) (s := Rows.OpenSpec.upto Rows.updateTwiceSpec) (k := Rows.uptoSmall) rfl false ⟨#[], #[.string .empty, .slice none 0 0, .slice none 0 0], []⟩ 8 (by kernel_rfl) (by kernel_rfl) (by kernel_rfl)
         (x := ([.lit (.string []), .nil, .nil], [], [])) (by kernel_rfl) rfl (by kernel_rfl)) ?_
 intro W base args ds gs before hval hW _ hk _
 exact contract H enc W base args ds gs before hval hW hk
theorem proved : Rows.UpdateTwiceUptoSaid :=
 OpenClaim.holds_of_cond 3 Tryz.f3 rfl rfl rfl rfl rfl rfl rfl ⟨rfl, rfl, rfl, rfl, rfl⟩ rfl rfl rfl rfl rfl (by kernel_rfl) Tryz.func3 (by kernel_rfl)
  (of_decide_eq_true (by kernel_rfl)) (by unfold Func.isWrapper; first | (rw [if_pos (by decide +kernel)]; kernel_rfl) | (rw [if_neg (by decide +kernel)]; exact ⟨rfl, rfl⟩))
  (fun os started H enc _ F => lifted os started H enc F)
end Go.Proofs.YtoabnpdoicbpiaaGreat.updateTwiceP
namespace Go.Proofs.YtoabnpdoicbpiaaGreat
theorem updateTwice_upto : Rows.UpdateTwiceUptoSaid := updateTwiceP.proved
end Go.Proofs.YtoabnpdoicbpiaaGreat
