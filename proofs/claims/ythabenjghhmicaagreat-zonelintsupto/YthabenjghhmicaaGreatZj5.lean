import Derived.Test.YthabenjghhmicaaGreatRw0G
import Derived.Test.YthabenjghhmicaaGreatZg6G
namespace Go.Proofs.YthabenjghhmicaaGreat
set_option linter.unusedVariables false
set_option linter.unusedSimpArgs false
open Go.RowKit Go.Shelf Go.Maps Go.Proofs.YthabenjghhmicaaGreat.Nm Go.Proofs.YthabenjghhmicaaGreat.Zs
def rfnV (Hd : Bool) (o : ByteArray) (t : Int) (n : ByteArray) (Wi H1 H2 : Bool) (a b : Int) : Option Fn :=
 if Hd = true then some ⟨4, o, t, ⟨#[]⟩⟩
 else if t ≠ 2 ∧ t ≠ 15 ∧ t ≠ 33 then none
 else if Wi = false ∨ H1 = true ∨ H2 = true ∨ a = 1 ∨ b = 1 then none
 else if a = 2 then some ⟨2, o, t, n⟩
 else if t ≠ 2 ∧ (a = 4 ∨ n = ⟨#[0]⟩) then none else some ⟨3, o, t, n⟩
def rfnd (apex : ByteArray) (M : List Rn) (x : Rn) : Option Fn := rfnV (rhidB apex M x) x.o x.t (tgB x) (withinB (tgB x) apex) (hasB M (tgB x) 1) (hasB M (tgB x) 28) (rfind apex M (tgB x) 1).k (rfind apex M (tgB x) 28).k
def rlone (apex : ByteArray) (M : List Rn) : List Fn := if (rset M apex 2).length = 1 then [⟨1, apex, 2, ⟨#[]⟩⟩] else []
def rlintB (apex : ByteArray) (M : List Rn) : List Fn := rlone apex M ++ M.filterMap (rfnd apex M)
theorem names_pos {t : Int} {d : ByteArray} (h : errD t d = 0) (ht : t = 2 ∨ t = 15 ∨ t = 33) : 0 < (namesD t d).length := by
 obtain ⟨ps, hp⟩ := errD_zero h
 unfold namesD
 rw [hp]
 simp only
 unfold partsD at hp
 have hk : kindsOf t = some [.dom] ∨ kindsOf t = some [.num 2, .dom] ∨ kindsOf t = some [.num 2, .num 2, .num 2, .dom] := by
  rcases ht with rfl | rfl | rfl
  ·left; rfl
  ·right; left; rfl
  ·right; right; rfl
 have key : ∀ (ks : List Kind) (d : ByteArray) (ps : List (Kind × ByteArray)), partsOf ks d = some ps → ps.map Prod.fst = ks := by
  intro ks
  induction ks with
  | nil =>
   intro d ps h
   unfold partsOf at h
   split at h
   ·injection h with h; subst h; rfl
   ·cases h
  | cons k ks ih =>
   intro d ps h
   unfold partsOf at h
   split at h
   ·cases h
   ·rename_i n hn
    cases hr : partsOf ks (d.extract n d.size) with
    | none => rw [hr] at h; cases h
    | some ps' =>
     rw [hr] at h
     injection h with h
     subst h
     rw [List.map_cons, ih _ _ hr]
 have hm : ∃ q ∈ ps, q.1 = Kind.dom := by
  have hd : ∀ ks, partsOf ks d = some ps → Kind.dom ∈ ks → ∃ q ∈ ps, q.1 = Kind.dom := fun ks h hk => by
   rw [← key ks d ps h] at hk
   obtain ⟨q, hq, e⟩ := List.mem_map.1 hk
   exact ⟨q, hq, e⟩
  rcases hk with hk | hk | hk
  all_goals
   rw [hk] at hp
   simp only at hp
   split at hp
   ·cases hp
   ·exact hd _ hp (by simp)
 obtain ⟨q, hq, e⟩ := hm
 have : q.2 ∈ namesOf ps := by
  unfold namesOf
  rw [List.mem_filterMap]
  exact ⟨q, hq, by rw [if_pos e]⟩
 exact List.length_pos_of_mem this
theorem ls_lift {W wa : World} {C : World → Prop} (hE : ∀ V, Below wa.heap.size wa V → Below W.heap.size W V) (hQ : ∀ V, Below wa.heap.size wa V → C V) {f : Nat} {args : Array Value} {P : Ending → World → Prop} (h : ∀ V, Below W.heap.size W V → Calls Tryz.prog f args V fun e w' => P e w' ∧ Below V.heap.size V w') : ∀ V, Below wa.heap.size wa V ∧ C V → Calls Tryz.prog f args V fun e w' => P e w' ∧ Below wa.heap.size wa w' ∧ C w' := fun V hV => by
 refine (h V (hE V hV.1)).mono ?_
 rintro e w' ⟨h1, h2⟩
 have hb := bstep hV.1 h2 hV.1.size
 exact ⟨h1, hb, hQ _ hb⟩
def hasR (n : Nat) : Code → Bool
 | .region k _ _ => k == n
 | .seq a b => hasR n a || hasR n b
 | .block _ c => hasR n c
 | .scope c => hasR n c
 | .cond _ a b => hasR n a || hasR n b
 | .loop c => hasR n c
 | _ => false
def behindN (n : Nat) : Code → List Code
 | .seq a b => bif hasR n a then [b] else behindN n b
 | _ => []
set_option maxRecDepth 100000 in
set_option maxHeartbeats 8000000 in
theorem rlint_tail {zb : Nat} {apex : ByteArray} {M : List Rn} {p : Option Addr} {c : Nat} {W : World} (h : Yz W zb apex M p c) (na : isN apex = true) (hin : ∀ r ∈ M, withinB r.o apex = true) (hra : rth M apex = true) (w9 : World) (ov : Value) (HGf : Hid (Gf W w9 (lnt (rlone apex M) (rfnd apex M) M 0) ov))
  (x1 x2 x4 x5 x6 x7 x8 x9 x10 x11 x12 x13 x14 x15 x16 x17 x18 x19 x20 x21 x22 x23 x24 x25 x26 x27 x28 x29 x30 x31 x32 x33 x34 x35 x36 x37 x38 x39 x40 x41 x42 x43 x44 x45 x46 x47 x48 x49 x50 x51 x52 x53 x54 x55 x56 x57 x58 x59 x60 x61 x62 x63 x64 x65 x66 x67 x68 x69 x70 x71 x72 x73 x74 x75 x76 x77 x78 x79 x80 x81 x82 x83 x84 x85 x86 x87 x88 x89 x90 x91 x92 x93 x94 x95 x96 x97 x98 x99 x100 x101 x102 x103 x104 x105 x106 x107 x108 x109 x110 x111 x112 x113 x114 x115 x116 x117 x118 x119 x120 x121 x122 x123 x124 x125 x126 x127 x128 x129 x130 x131 x132 x133 x134 : Value) :
  Code.wp Tryz.prog (((Tryz.f24.body.map (behindN 3)).getD []).getD 0 .skip) (bodyPost Tryz.prog Tryz.f24 fun r w' => ∃ ov, r = .returned ov ∧ Gf W w' (rlintB apex M) ov) ⟨List.toArray ((.pointer (some ⟨zb, 0, none⟩) : Value) :: x1 :: x2 :: (ov : Value) :: x4 :: x5 :: x6 :: x7 :: x8 :: x9 :: x10 :: x11 :: x12 :: x13 :: x14 :: x15 :: x16 :: x17 :: x18 :: x19 :: x20 :: x21 :: x22 :: x23 :: x24 :: x25 :: x26 :: x27 :: x28 :: x29 :: x30 :: x31 :: x32 :: x33 :: x34 :: x35 :: x36 :: x37 :: x38 :: x39 :: x40 :: x41 :: x42 :: x43 :: x44 :: x45 :: x46 :: x47 :: x48 :: x49 :: x50 :: x51 :: x52 :: x53 :: x54 :: x55 :: x56 :: x57 :: x58 :: x59 :: x60 :: x61 :: x62 :: x63 :: x64 :: x65 :: x66 :: x67 :: x68 :: x69 :: x70 :: x71 :: x72 :: x73 :: x74 :: x75 :: x76 :: x77 :: x78 :: x79 :: x80 :: x81 :: x82 :: x83 :: x84 :: x85 :: x86 :: x87 :: x88 :: x89 :: x90 :: x91 :: x92 :: x93 :: x94 :: x95 :: x96 :: x97 :: x98 :: x99 :: x100 :: x101 :: x102 :: x103 :: x104 :: x105 :: x106 :: x107 :: x108 :: x109 :: x110 :: x111 :: x112 :: x113 :: x114 :: x115 :: x116 :: x117 :: x118 :: x119 :: x120 :: x121 :: x122 :: x123 :: x124 :: x125 :: x126 :: x127 :: x128 :: x129 :: x130 :: x131 :: x132 :: x133 :: x134 :: []), []⟩ w9 := by
 have hap := ((isN_iff _).1 na).1
 have hfew := h.few
 have HRs := hide' h.rs
 have HOk : Hid (∀ k (hk : k < M.length), zonR M[k] = true) := fun k hk => h.ok _ (List.getElem_mem hk)
 have HHi : Hid (∀ k (hk : k < M.length) V, Below W.heap.size W V → Calls Tryz.prog 62 #[.pointer (some ⟨zb, 0, none⟩), rcV M[k]] V fun e w' => e = .returned (.bool (rhidB apex M M[k])) ∧ Below V.heap.size V w') := fun k hk V hV => rhidden_any (h.step hV) na _ (h.ok _ (List.getElem_mem hk)) (hin _ (List.getElem_mem hk))
 have HFi : Hid (∀ (n : ByteArray) t V, n.size ≤ 65535 → Below W.heap.size W V → Calls Tryz.prog 14 #[.pointer (some ⟨zb, 0, none⟩), .string n, .int .i64 t] V fun r w' => (∃ a b c d e g, r = .returned (.agg #[.int .i64 (rfind apex M n t).k, .string a, .string b, .bool c, .slice d e g])) ∧ Below V.heap.size V w') := fun n t V hn hV => by
  refine (rfind_any (h.step hV) n t (by omega) na hra).mono ?_
  rintro r w' ⟨⟨v, rfl, ho⟩, hb⟩
  obtain ⟨p5, c5, rfl, _, _, _⟩ := own_shape ho
  exact ⟨⟨_, _, _, _, _, _, rfl⟩, hb⟩
 have HHa : Hid (∀ (n : ByteArray) t V, n.size ≤ 65535 → Below W.heap.size W V → Calls Tryz.prog 42 #[.slice p M.length c, .string n, .int .i64 t] V fun r w' => r = .returned (.bool (hasB M n t)) ∧ Below V.heap.size V w') := fun n t V hn hV => rhas_any M p c n t V (by omega) (h.step hV).rs (fun r hr => ok_small (h.ok r hr)) (by omega)
 have HZ : Hid (∀ V, Below W.heap.size W V → V.cell? ⟨zb, 0, none⟩ = some (.string apex) ∧ V.cell? ⟨zb, 1, none⟩ = some (.slice p M.length c)) := fun V hV => ⟨(h.step hV).yx.cell rfl, (h.step hV).yx.cell rfl⟩
 clear h hra hin na
 obtain ⟨z0, z1⟩ := HZ.out _ HGf.out.bl
 have HLB : Hid (rlintB apex M = lnt (rlone apex M) (rfnd apex M) M M.length) := by unfold Hid rlintB lnt; rw [List.take_length]
 have hfk := found_kind
 conv => arg 2; whnf
 go_wp2_with fail
 go_loopw [3, 32] (fun ov kv wv => ∃ k : Nat, kv = .int .i64 (k : Int) ∧ k ≤ M.length ∧ Hid (Gf W wv (lnt (rlone apex M) (rfnd apex M) M k) ov)) (fun _ kv _ => M.length - (intOf kv).toNat)
 case atStart => exact ⟨0, rfl, Nat.zero_le _, HGf⟩
 case round =>
  obtain ⟨k, rfl, hk, HG⟩ := hrel
  by_cases hlt : k < M.length
  ·have pk : (k : Int) < (M.length : Int) := by omega
   obtain ⟨g, off, hp, hg, y0, y1, y2, y3, y4⟩ := (rs_stay HRs.out HG.out.bl) k hlt
   subst hp
   have HH := hide' (fun V hV => HHi.out k hlt V hV)
   obtain ⟨-, -, -, -, he, -, -, hd, ho, -, -⟩ := ok_facts (HOk.out k hlt)
   have htg := tg_size M[k] hd
   have HF1 := hide' (fun V hV => HFi.out (tgB M[k]) 1 V htg hV)
   have HF2 := hide' (fun V hV => HFi.out (tgB M[k]) 28 V htg hV)
   have HH1 := hide' (fun V hV => HHa.out (tgB M[k]) 1 V htg hV)
   have HH2 := hide' (fun V hV => HHa.out (tgB M[k]) 28 V htg hV)
   have HWi := hide' (fun V => refWithin_any (tgB M[k]) apex V (by omega) (by omega))
   have HNm0 := hide' (fun V => refNamesIn_any M[k].t M[k].d V (by omega))
   have HNp := hide' (names_pos he)
   have hN9 := names_few M[k].t M[k].d
   have HTg : Hid (M[k].t = 2 ∨ M[k].t = 15 ∨ M[k].t = 33 → tgB M[k] = ((namesD M[k].t M[k].d).getLast?).getD ⟨#[]⟩) := fun h => by unfold tgB; rw [if_pos h]
   have HSk := hide' (fun h => lnt_skip (A := rlone apex M) (P := rfnd apex M) hlt h)
   have HTk := hide' (fun y h => lnt_take (A := rlone apex M) (P := rfnd apex M) (y := y) hlt h)
   have HLn : Hid ((lnt (rlone apex M) (rfnd apex M) M k).length ≤ 2001) := by
    have := lnt_len (A := rlone apex M) (P := rfnd apex M) (M := M) (k := k) (by unfold rlone; split <;> simp)
    unfold Hid; omega
   obtain ⟨l, hl⟩ : ∃ l, lnt (rlone apex M) (rfnd apex M) M k = l := ⟨_, rfl⟩
   rw [hl] at HG HSk HTk HLn
   clear hl
   have K0 := hide' (Bk.start wr M[k])
   have HF : Hid (rfnd apex M M[k] = rfnV (rhidB apex M M[k]) M[k].o M[k].t (tgB M[k]) (withinB (tgB M[k]) apex) (hasB M (tgB M[k]) 1) (hasB M (tgB M[k]) 28) (rfind apex M (tgB M[k]) 1).k (rfind apex M (tgB M[k]) 28).k) := rfl
   obtain ⟨rf, hrf⟩ : ∃ rf, rfnd apex M M[k] = rf := ⟨_, rfl⟩
   obtain ⟨N, hN⟩ : ∃ N, namesD M[k].t M[k].d = N := ⟨_, rfl⟩
   obtain ⟨Hd, hHd⟩ : ∃ H, rhidB apex M M[k] = H := ⟨_, rfl⟩
   obtain ⟨Wi, hWi⟩ : ∃ H, withinB (tgB M[k]) apex = H := ⟨_, rfl⟩
   obtain ⟨b1, hb1⟩ : ∃ H, hasB M (tgB M[k]) 1 = H := ⟨_, rfl⟩
   obtain ⟨b2, hb2⟩ : ∃ H, hasB M (tgB M[k]) 28 = H := ⟨_, rfl⟩
   obtain ⟨k1, hk1⟩ : ∃ H, (rfind apex M (tgB M[k]) 1).k = H := ⟨_, rfl⟩
   obtain ⟨k2, hk2⟩ : ∃ H, (rfind apex M (tgB M[k]) 28).k = H := ⟨_, rfl⟩
   rw [hrf] at HF HSk HTk
   rw [hN] at HNm0 HNp hN9 HTg
   rw [hHd] at HF HH
   rw [hWi] at HF HWi
   rw [hb1] at HF HH1
   rw [hb2] at HF HH2
   rw [hk1] at HF HF1
   rw [hk2] at HF HF2
   obtain ⟨tg, htgg⟩ : ∃ tg, tgB M[k] = tg := ⟨_, rfl⟩
   rw [htgg] at HF HF1 HF2 HH1 HH2 HWi HTg
   clear hrf hN hHd hWi hb1 hb2 hk1 hk2 htgg htg hd ho he
   obtain ⟨x, hx⟩ : ∃ x, M[k] = x := ⟨_, rfl⟩
   rw [hx] at y0 y1 y2 y3 y4 HH HNm0 HNp HTg HF K0
   clear hx
   obtain ⟨wa, hwa⟩ : ∃ wa, wr.alloc (.cells #[.string x.o, .int .i64 x.t, .int .i64 x.c, .int .i64 x.l, .string x.d] 54) = wa := ⟨_, rfl⟩
   rw [hwa] at K0
   have hGa := HG.out.step (hwa ▸ (Below.refl _ wr).alloc (Nat.le_refl _) _)
   have HGa := hide' hGa
   clear hGa
   obtain ⟨q0, q1, q2, q3, q4⟩ := K0.out.cells
   have HE : Hid (∀ V, Below wa.heap.size wa V → Below W.heap.size W V) := fun V hV => bstep HGa.out.bl hV HGa.out.bl.size
   have HQ : Hid (∀ V, Below wa.heap.size wa V → V.cell? ⟨wr.heap.size, 0, none⟩ = some (.string x.o) ∧ V.cell? ⟨wr.heap.size, 1, none⟩ = some (.int .i64 x.t) ∧ V.cell? ⟨wr.heap.size, 4, none⟩ = some (.string x.d) ∧ V.cell? ⟨zb, 0, none⟩ = some (.string apex) ∧ V.cell? ⟨zb, 1, none⟩ = some (.slice (some ⟨g, off, none⟩) M.length c)) := fun V hV => ⟨(K0.out.step hV).cells.1, (K0.out.step hV).cells.2.1, (K0.out.step hV).cells.2.2.2.2, (HZ.out _ (HE.out V hV)).1, (HZ.out _ (HE.out V hV)).2⟩
   obtain ⟨o, t, cc, l', d⟩ := x
   unfold rcV at HH
   simp only at y0 y1 y2 y3 y4 q0 q1 q2 q3 q4 HH HNm0 HNp HTg HF HQ hwa
   have HH := hide' (ls_lift (fun V hV => HE.out V hV) HQ.out (P := fun e _ => e = _) (fun V hV => HH.out V hV))
   have HF1 := hide' (ls_lift (fun V hV => HE.out V hV) HQ.out (P := fun e _ => ∃ a b c d e' g, e = .returned (.agg #[.int .i64 k1, .string a, .string b, .bool c, .slice d e' g])) (fun V hV => HF1.out V hV))
   have HF2 := hide' (ls_lift (fun V hV => HE.out V hV) HQ.out (P := fun e _ => ∃ a b c d e' g, e = .returned (.agg #[.int .i64 k2, .string a, .string b, .bool c, .slice d e' g])) (fun V hV => HF2.out V hV))
   have HWi := hide' (ls_lift (fun V hV => HE.out V hV) HQ.out (P := fun e _ => e = _) (fun V hV => HWi.out V))
   have HH1 := hide' (ls_lift (fun V hV => HE.out V hV) HQ.out (P := fun e _ => e = _) (fun V hV => HH1.out V hV))
   have HH2 := hide' (ls_lift (fun V hV => HE.out V hV) HQ.out (P := fun e _ => e = _) (fun V hV => HH2.out V hV))
   have hB := Below.refl wa.heap.size wa
   obtain ⟨_, _, _, z0, z1⟩ := HQ.out _ hB
   clear K0 HHi HFi HHa
   cases Hd with
   | true =>
    have HN : Hid (lnt (rlone apex M) (rfnd apex M) M (k + 1) = l ++ [⟨4, o, t, ⟨#[]⟩⟩]) := HTk.out _ (by rw [HF.out]; simp [rfnV])
    have HAP : Hid (∀ V, Below wa.heap.size wa V → _) := fun V hV => HGa.out.app hV ⟨4, o, t, ⟨#[]⟩⟩
    go_wp2_with (first
     | (go_at_call 62; refine (HH.out _ ⟨hB, q0, q1, q4, z0, z1⟩).mono ?_; clear hB q0 q1 q4 z0 z1; rintro e w1 ⟨rfl, hB, q0, q1, q4, z0, z1⟩)
     | (at_builtin; refine wpList_append_rows (V := fnV) Tryz.underlying47 infoFn rfl (by decide) (by decide) fnV_len fnV_one rfl _ _ rfl W.heap.size _ _ _ rfl (HAP.out _ hB).1 (some ⟨_, 0, none⟩) [⟨4, o, t, ⟨#[]⟩⟩] 1 rfl (HAP.out _ hB).2.1 (fun e => by cases e) (by have := HLn.out; simp <;> omega) (HAP.out _ hB).2.2.1 ?_; intro v9 w9 ho9 hg9; obtain ⟨p9, c9, rfl, _, _, _⟩ := own_shape ho9; have HO9 := hide' ho9; have HB9 := hide' ((HAP.out _ hB).2.2.2.grown hg9 (HAP.out _ hB).2.2.1 (fun j e => (HAP.out _ hB).1.lt j e |>.1)); clear ho9 hg9))
    exact ⟨⟨k + 1, by go_num, by omega, (show Gf _ _ _ _ by rw [HN.out]; exact Gf.of (p9 := p9) (n9 := 0) (c9 := c9) HO9.out HB9.out)⟩, by simp [intOf] <;> omega⟩
   | false =>
    by_cases ht : t = 2 ∨ t = 15 ∨ t = 33
    ·have hNp := HNp.out ht
     have hTg := HTg.out ht
     obtain ⟨mm, hmm⟩ : ∃ mm, N.length = mm + 1 := ⟨N.length - 1, by omega⟩
     have hz : N[mm]? = some tg := by
      rw [List.getLast?_eq_getElem?] at hTg
      have : N.length - 1 = mm := by omega
      rw [this] at hTg
      have hlt2 : mm < N.length := by omega
      rw [List.getElem?_eq_getElem hlt2] at hTg ⊢
      rw [hTg]; rfl
     have HZn : Hid (∀ (V : World) p c b, V.ownsRow b 9 1 (.slice p N.length c) N.length (N.map Value.string) → ∃ g, p = some ⟨g, 0, none⟩ ∧ V.cell? ⟨g, mm, none⟩ = some (.string tg)) := fun V p c b ho => by
      obtain ⟨g, c', hv⟩ := own_somS ho (by omega)
      injection hv with h1 h2 h3
      subst h1
      refine ⟨g, rfl, ?_⟩
      rw [ho.cellAt mm (by omega), List.getElem?_map, hz]
      rfl
     have i2 : IntKind.i64.wrap ((N.length : Int) - 1) = (mm : Int) := by rw [IntWalk.i64_in] <;> omega
     have i3 : (0 : Int) ≤ (mm : Int) := by omega
     have i4 : (mm : Int) < (N.length : Int) := by omega
     have HNm := hide' (ls_lift (fun V hV => HE.out V hV) HQ.out (P := fun e w' => ∃ g c, e = .returned (.slice (some ⟨g, 0, none⟩) N.length c) ∧ w'.cell? ⟨g, mm, none⟩ = some (.string tg)) (fun V hV => by
      refine (HNm0.out V).mono ?_
      rintro e w' ⟨p2, c2, rfl, ho2, hB1⟩
      obtain ⟨g2, rfl, hc2⟩ := HZn.out _ _ _ _ ho2
      exact ⟨⟨g2, c2, rfl, hc2⟩, hB1⟩))
     clear hNp hTg hmm hz hN9 HNp HTg HNm0
     rcases ht with rfl | rfl | rfl
     ·cases Wi with
      | false =>
       have HN : Hid (lnt (rlone apex M) (rfnd apex M) M (k + 1) = l) := HSk.out (by rw [HF.out]; simp [rfnV])
       go_wp2_with (first
        | (go_at_call 62; refine (HH.out _ ⟨hB, q0, q1, q4, z0, z1⟩).mono ?_; clear hB q0 q1 q4 z0 z1; rintro e w1 ⟨rfl, hB, q0, q1, q4, z0, z1⟩)
        | (go_at_call 63; refine (HNm.out _ ⟨hB, q0, q1, q4, z0, z1⟩).mono ?_; clear hB q0 q1 q4 z0 z1; rintro e w2 ⟨⟨g2, c2, rfl, hc2⟩, hB, q0, q1, q4, z0, z1⟩)
        | (go_at_call 14; (with_reducible refine (HF1.out _ ⟨hB, q0, q1, q4, z0, z1⟩).mono ?_); clear hB q0 q1 q4 z0 z1; rintro e w3 ⟨⟨a1, d1, e1, f1, g1, h1, rfl⟩, hB, q0, q1, q4, z0, z1⟩)
        | (go_at_call 14; (with_reducible refine (HF2.out _ ⟨hB, q0, q1, q4, z0, z1⟩).mono ?_); clear hB q0 q1 q4 z0 z1; rintro e w4 ⟨⟨a2, d2, e2, f2, g3, h2, rfl⟩, hB, q0, q1, q4, z0, z1⟩)
        | (go_at_call 52; refine (HWi.out _ ⟨hB, q0, q1, q4, z0, z1⟩).mono ?_; clear hB q0 q1 q4 z0 z1; rintro e w5 ⟨rfl, hB, q0, q1, q4, z0, z1⟩)
        | (go_at_call 42; (with_reducible refine (HH1.out _ ⟨hB, q0, q1, q4, z0, z1⟩).mono ?_); clear hB q0 q1 q4 z0 z1; rintro e w6 ⟨rfl, hB, q0, q1, q4, z0, z1⟩)
        | (go_at_call 42; (with_reducible refine (HH2.out _ ⟨hB, q0, q1, q4, z0, z1⟩).mono ?_); clear hB q0 q1 q4 z0 z1; rintro e w7 ⟨rfl, hB, q0, q1, q4, z0, z1⟩))
       exact ⟨⟨k + 1, by go_num, by omega, (show Gf _ _ _ _ by rw [HN.out]; exact HGa.out.step hB)⟩, by simp [intOf] <;> omega⟩
      | true =>
       cases b1 with
       | true =>
        have HN : Hid (lnt (rlone apex M) (rfnd apex M) M (k + 1) = l) := HSk.out (by rw [HF.out]; simp [rfnV])
        go_wp2_with (first
         | (go_at_call 62; refine (HH.out _ ⟨hB, q0, q1, q4, z0, z1⟩).mono ?_; clear hB q0 q1 q4 z0 z1; rintro e w1 ⟨rfl, hB, q0, q1, q4, z0, z1⟩)
         | (go_at_call 63; refine (HNm.out _ ⟨hB, q0, q1, q4, z0, z1⟩).mono ?_; clear hB q0 q1 q4 z0 z1; rintro e w2 ⟨⟨g2, c2, rfl, hc2⟩, hB, q0, q1, q4, z0, z1⟩)
         | (go_at_call 14; (with_reducible refine (HF1.out _ ⟨hB, q0, q1, q4, z0, z1⟩).mono ?_); clear hB q0 q1 q4 z0 z1; rintro e w3 ⟨⟨a1, d1, e1, f1, g1, h1, rfl⟩, hB, q0, q1, q4, z0, z1⟩)
         | (go_at_call 14; (with_reducible refine (HF2.out _ ⟨hB, q0, q1, q4, z0, z1⟩).mono ?_); clear hB q0 q1 q4 z0 z1; rintro e w4 ⟨⟨a2, d2, e2, f2, g3, h2, rfl⟩, hB, q0, q1, q4, z0, z1⟩)
         | (go_at_call 52; refine (HWi.out _ ⟨hB, q0, q1, q4, z0, z1⟩).mono ?_; clear hB q0 q1 q4 z0 z1; rintro e w5 ⟨rfl, hB, q0, q1, q4, z0, z1⟩)
         | (go_at_call 42; (with_reducible refine (HH1.out _ ⟨hB, q0, q1, q4, z0, z1⟩).mono ?_); clear hB q0 q1 q4 z0 z1; rintro e w6 ⟨rfl, hB, q0, q1, q4, z0, z1⟩)
         | (go_at_call 42; (with_reducible refine (HH2.out _ ⟨hB, q0, q1, q4, z0, z1⟩).mono ?_); clear hB q0 q1 q4 z0 z1; rintro e w7 ⟨rfl, hB, q0, q1, q4, z0, z1⟩))
        exact ⟨⟨k + 1, by go_num, by omega, (show Gf _ _ _ _ by rw [HN.out]; exact HGa.out.step hB)⟩, by simp [intOf] <;> omega⟩
       | false =>
        cases b2 with
        | true =>
         have HN : Hid (lnt (rlone apex M) (rfnd apex M) M (k + 1) = l) := HSk.out (by rw [HF.out]; simp [rfnV])
         go_wp2_with (first
          | (go_at_call 62; refine (HH.out _ ⟨hB, q0, q1, q4, z0, z1⟩).mono ?_; clear hB q0 q1 q4 z0 z1; rintro e w1 ⟨rfl, hB, q0, q1, q4, z0, z1⟩)
          | (go_at_call 63; refine (HNm.out _ ⟨hB, q0, q1, q4, z0, z1⟩).mono ?_; clear hB q0 q1 q4 z0 z1; rintro e w2 ⟨⟨g2, c2, rfl, hc2⟩, hB, q0, q1, q4, z0, z1⟩)
          | (go_at_call 14; (with_reducible refine (HF1.out _ ⟨hB, q0, q1, q4, z0, z1⟩).mono ?_); clear hB q0 q1 q4 z0 z1; rintro e w3 ⟨⟨a1, d1, e1, f1, g1, h1, rfl⟩, hB, q0, q1, q4, z0, z1⟩)
          | (go_at_call 14; (with_reducible refine (HF2.out _ ⟨hB, q0, q1, q4, z0, z1⟩).mono ?_); clear hB q0 q1 q4 z0 z1; rintro e w4 ⟨⟨a2, d2, e2, f2, g3, h2, rfl⟩, hB, q0, q1, q4, z0, z1⟩)
          | (go_at_call 52; refine (HWi.out _ ⟨hB, q0, q1, q4, z0, z1⟩).mono ?_; clear hB q0 q1 q4 z0 z1; rintro e w5 ⟨rfl, hB, q0, q1, q4, z0, z1⟩)
          | (go_at_call 42; (with_reducible refine (HH1.out _ ⟨hB, q0, q1, q4, z0, z1⟩).mono ?_); clear hB q0 q1 q4 z0 z1; rintro e w6 ⟨rfl, hB, q0, q1, q4, z0, z1⟩)
          | (go_at_call 42; (with_reducible refine (HH2.out _ ⟨hB, q0, q1, q4, z0, z1⟩).mono ?_); clear hB q0 q1 q4 z0 z1; rintro e w7 ⟨rfl, hB, q0, q1, q4, z0, z1⟩))
         exact ⟨⟨k + 1, by go_num, by omega, (show Gf _ _ _ _ by rw [HN.out]; exact HGa.out.step hB)⟩, by simp [intOf] <;> omega⟩
        | false =>
         by_cases h1 : k1 = 1
         ·subst h1
          have HN : Hid (lnt (rlone apex M) (rfnd apex M) M (k + 1) = l) := HSk.out (by rw [HF.out]; simp [rfnV])
          go_wp2_with (first
           | (go_at_call 62; refine (HH.out _ ⟨hB, q0, q1, q4, z0, z1⟩).mono ?_; clear hB q0 q1 q4 z0 z1; rintro e w1 ⟨rfl, hB, q0, q1, q4, z0, z1⟩)
           | (go_at_call 63; refine (HNm.out _ ⟨hB, q0, q1, q4, z0, z1⟩).mono ?_; clear hB q0 q1 q4 z0 z1; rintro e w2 ⟨⟨g2, c2, rfl, hc2⟩, hB, q0, q1, q4, z0, z1⟩)
           | (go_at_call 14; (with_reducible refine (HF1.out _ ⟨hB, q0, q1, q4, z0, z1⟩).mono ?_); clear hB q0 q1 q4 z0 z1; rintro e w3 ⟨⟨a1, d1, e1, f1, g1, h1, rfl⟩, hB, q0, q1, q4, z0, z1⟩)
           | (go_at_call 14; (with_reducible refine (HF2.out _ ⟨hB, q0, q1, q4, z0, z1⟩).mono ?_); clear hB q0 q1 q4 z0 z1; rintro e w4 ⟨⟨a2, d2, e2, f2, g3, h2, rfl⟩, hB, q0, q1, q4, z0, z1⟩)
           | (go_at_call 52; refine (HWi.out _ ⟨hB, q0, q1, q4, z0, z1⟩).mono ?_; clear hB q0 q1 q4 z0 z1; rintro e w5 ⟨rfl, hB, q0, q1, q4, z0, z1⟩)
           | (go_at_call 42; (with_reducible refine (HH1.out _ ⟨hB, q0, q1, q4, z0, z1⟩).mono ?_); clear hB q0 q1 q4 z0 z1; rintro e w6 ⟨rfl, hB, q0, q1, q4, z0, z1⟩)
           | (go_at_call 42; (with_reducible refine (HH2.out _ ⟨hB, q0, q1, q4, z0, z1⟩).mono ?_); clear hB q0 q1 q4 z0 z1; rintro e w7 ⟨rfl, hB, q0, q1, q4, z0, z1⟩))
          exact ⟨⟨k + 1, by go_num, by omega, (show Gf _ _ _ _ by rw [HN.out]; exact HGa.out.step hB)⟩, by simp [intOf] <;> omega⟩
         ·have H1 := hide' h1
          have h1b : (k1 == 1) = false := by simp [h1]
          clear h1
          by_cases h2 : k2 = 1
          ·subst h2
           have HN : Hid (lnt (rlone apex M) (rfnd apex M) M (k + 1) = l) := HSk.out (by rw [HF.out]; simp [rfnV, H1.out])
           go_wp2_with (first
            | (go_at_call 62; refine (HH.out _ ⟨hB, q0, q1, q4, z0, z1⟩).mono ?_; clear hB q0 q1 q4 z0 z1; rintro e w1 ⟨rfl, hB, q0, q1, q4, z0, z1⟩)
            | (go_at_call 63; refine (HNm.out _ ⟨hB, q0, q1, q4, z0, z1⟩).mono ?_; clear hB q0 q1 q4 z0 z1; rintro e w2 ⟨⟨g2, c2, rfl, hc2⟩, hB, q0, q1, q4, z0, z1⟩)
            | (go_at_call 14; (with_reducible refine (HF1.out _ ⟨hB, q0, q1, q4, z0, z1⟩).mono ?_); clear hB q0 q1 q4 z0 z1; rintro e w3 ⟨⟨a1, d1, e1, f1, g1, h1, rfl⟩, hB, q0, q1, q4, z0, z1⟩)
            | (go_at_call 14; (with_reducible refine (HF2.out _ ⟨hB, q0, q1, q4, z0, z1⟩).mono ?_); clear hB q0 q1 q4 z0 z1; rintro e w4 ⟨⟨a2, d2, e2, f2, g3, h2, rfl⟩, hB, q0, q1, q4, z0, z1⟩)
            | (go_at_call 52; refine (HWi.out _ ⟨hB, q0, q1, q4, z0, z1⟩).mono ?_; clear hB q0 q1 q4 z0 z1; rintro e w5 ⟨rfl, hB, q0, q1, q4, z0, z1⟩)
            | (go_at_call 42; (with_reducible refine (HH1.out _ ⟨hB, q0, q1, q4, z0, z1⟩).mono ?_); clear hB q0 q1 q4 z0 z1; rintro e w6 ⟨rfl, hB, q0, q1, q4, z0, z1⟩)
            | (go_at_call 42; (with_reducible refine (HH2.out _ ⟨hB, q0, q1, q4, z0, z1⟩).mono ?_); clear hB q0 q1 q4 z0 z1; rintro e w7 ⟨rfl, hB, q0, q1, q4, z0, z1⟩))
           exact ⟨⟨k + 1, by go_num, by omega, (show Gf _ _ _ _ by rw [HN.out]; exact HGa.out.step hB)⟩, by simp [intOf] <;> omega⟩
          ·have H2 := hide' h2
           have h2b : (k2 == 1) = false := by simp [h2]
           clear h2
           by_cases h3 : k1 = 2
           ·subst h3
            have HN : Hid (lnt (rlone apex M) (rfnd apex M) M (k + 1) = l ++ [⟨2, o, 2, tg⟩]) := HTk.out _ (by rw [HF.out]; simp [rfnV, H2.out])
            have HAP : Hid (∀ V, Below wa.heap.size wa V → _) := fun V hV => HGa.out.app hV ⟨2, o, 2, tg⟩
            go_wp2_with (first
             | (go_at_call 62; refine (HH.out _ ⟨hB, q0, q1, q4, z0, z1⟩).mono ?_; clear hB q0 q1 q4 z0 z1; rintro e w1 ⟨rfl, hB, q0, q1, q4, z0, z1⟩)
             | (go_at_call 63; refine (HNm.out _ ⟨hB, q0, q1, q4, z0, z1⟩).mono ?_; clear hB q0 q1 q4 z0 z1; rintro e w2 ⟨⟨g2, c2, rfl, hc2⟩, hB, q0, q1, q4, z0, z1⟩)
             | (go_at_call 14; (with_reducible refine (HF1.out _ ⟨hB, q0, q1, q4, z0, z1⟩).mono ?_); clear hB q0 q1 q4 z0 z1; rintro e w3 ⟨⟨a1, d1, e1, f1, g1, h1, rfl⟩, hB, q0, q1, q4, z0, z1⟩)
             | (go_at_call 14; (with_reducible refine (HF2.out _ ⟨hB, q0, q1, q4, z0, z1⟩).mono ?_); clear hB q0 q1 q4 z0 z1; rintro e w4 ⟨⟨a2, d2, e2, f2, g3, h2, rfl⟩, hB, q0, q1, q4, z0, z1⟩)
             | (go_at_call 52; refine (HWi.out _ ⟨hB, q0, q1, q4, z0, z1⟩).mono ?_; clear hB q0 q1 q4 z0 z1; rintro e w5 ⟨rfl, hB, q0, q1, q4, z0, z1⟩)
             | (go_at_call 42; (with_reducible refine (HH1.out _ ⟨hB, q0, q1, q4, z0, z1⟩).mono ?_); clear hB q0 q1 q4 z0 z1; rintro e w6 ⟨rfl, hB, q0, q1, q4, z0, z1⟩)
             | (go_at_call 42; (with_reducible refine (HH2.out _ ⟨hB, q0, q1, q4, z0, z1⟩).mono ?_); clear hB q0 q1 q4 z0 z1; rintro e w7 ⟨rfl, hB, q0, q1, q4, z0, z1⟩)
             | (at_builtin; refine wpList_append_rows (V := fnV) Tryz.underlying47 infoFn rfl (by decide) (by decide) fnV_len fnV_one rfl _ _ rfl W.heap.size _ _ _ rfl (HAP.out _ hB).1 (some ⟨_, 0, none⟩) [⟨2, o, 2, tg⟩] 1 rfl (HAP.out _ hB).2.1 (fun e => by cases e) (by have := HLn.out; simp <;> omega) (HAP.out _ hB).2.2.1 ?_; intro v9 w9 ho9 hg9; obtain ⟨p9, c9, rfl, _, _, _⟩ := own_shape ho9; have HO9 := hide' ho9; have HB9 := hide' ((HAP.out _ hB).2.2.2.grown hg9 (HAP.out _ hB).2.2.1 (fun j e => (HAP.out _ hB).1.lt j e |>.1)); clear ho9 hg9))
            exact ⟨⟨k + 1, by go_num, by omega, (show Gf _ _ _ _ by rw [HN.out]; exact Gf.of (p9 := p9) (n9 := 0) (c9 := c9) HO9.out HB9.out)⟩, by simp [intOf] <;> omega⟩
           ·have H3 := hide' h3
            have h3b : (k1 == 2) = false := by simp [h3]
            clear h3
            have HN : Hid (lnt (rlone apex M) (rfnd apex M) M (k + 1) = l ++ [⟨3, o, 2, tg⟩]) := HTk.out _ (by rw [HF.out]; simp [rfnV, H1.out, H2.out, H3.out])
            have HAP : Hid (∀ V, Below wa.heap.size wa V → _) := fun V hV => HGa.out.app hV ⟨3, o, 2, tg⟩
            go_wp2_with (first
             | (go_at_call 62; refine (HH.out _ ⟨hB, q0, q1, q4, z0, z1⟩).mono ?_; clear hB q0 q1 q4 z0 z1; rintro e w1 ⟨rfl, hB, q0, q1, q4, z0, z1⟩)
             | (go_at_call 63; refine (HNm.out _ ⟨hB, q0, q1, q4, z0, z1⟩).mono ?_; clear hB q0 q1 q4 z0 z1; rintro e w2 ⟨⟨g2, c2, rfl, hc2⟩, hB, q0, q1, q4, z0, z1⟩)
             | (go_at_call 14; (with_reducible refine (HF1.out _ ⟨hB, q0, q1, q4, z0, z1⟩).mono ?_); clear hB q0 q1 q4 z0 z1; rintro e w3 ⟨⟨a1, d1, e1, f1, g1, h1, rfl⟩, hB, q0, q1, q4, z0, z1⟩)
             | (go_at_call 14; (with_reducible refine (HF2.out _ ⟨hB, q0, q1, q4, z0, z1⟩).mono ?_); clear hB q0 q1 q4 z0 z1; rintro e w4 ⟨⟨a2, d2, e2, f2, g3, h2, rfl⟩, hB, q0, q1, q4, z0, z1⟩)
             | (go_at_call 52; refine (HWi.out _ ⟨hB, q0, q1, q4, z0, z1⟩).mono ?_; clear hB q0 q1 q4 z0 z1; rintro e w5 ⟨rfl, hB, q0, q1, q4, z0, z1⟩)
             | (go_at_call 42; (with_reducible refine (HH1.out _ ⟨hB, q0, q1, q4, z0, z1⟩).mono ?_); clear hB q0 q1 q4 z0 z1; rintro e w6 ⟨rfl, hB, q0, q1, q4, z0, z1⟩)
             | (go_at_call 42; (with_reducible refine (HH2.out _ ⟨hB, q0, q1, q4, z0, z1⟩).mono ?_); clear hB q0 q1 q4 z0 z1; rintro e w7 ⟨rfl, hB, q0, q1, q4, z0, z1⟩)
             | (at_builtin; refine wpList_append_rows (V := fnV) Tryz.underlying47 infoFn rfl (by decide) (by decide) fnV_len fnV_one rfl _ _ rfl W.heap.size _ _ _ rfl (HAP.out _ hB).1 (some ⟨_, 0, none⟩) [⟨3, o, 2, tg⟩] 1 rfl (HAP.out _ hB).2.1 (fun e => by cases e) (by have := HLn.out; simp <;> omega) (HAP.out _ hB).2.2.1 ?_; intro v9 w9 ho9 hg9; obtain ⟨p9, c9, rfl, _, _, _⟩ := own_shape ho9; have HO9 := hide' ho9; have HB9 := hide' ((HAP.out _ hB).2.2.2.grown hg9 (HAP.out _ hB).2.2.1 (fun j e => (HAP.out _ hB).1.lt j e |>.1)); clear ho9 hg9))
            exact ⟨⟨k + 1, by go_num, by omega, (show Gf _ _ _ _ by rw [HN.out]; exact Gf.of (p9 := p9) (n9 := 0) (c9 := c9) HO9.out HB9.out)⟩, by simp [intOf] <;> omega⟩
     ·cases Wi with
      | false =>
       have HN : Hid (lnt (rlone apex M) (rfnd apex M) M (k + 1) = l) := HSk.out (by rw [HF.out]; simp [rfnV])
       go_wp2_with (first
        | (go_at_call 62; refine (HH.out _ ⟨hB, q0, q1, q4, z0, z1⟩).mono ?_; clear hB q0 q1 q4 z0 z1; rintro e w1 ⟨rfl, hB, q0, q1, q4, z0, z1⟩)
        | (go_at_call 63; refine (HNm.out _ ⟨hB, q0, q1, q4, z0, z1⟩).mono ?_; clear hB q0 q1 q4 z0 z1; rintro e w2 ⟨⟨g2, c2, rfl, hc2⟩, hB, q0, q1, q4, z0, z1⟩)
        | (go_at_call 14; (with_reducible refine (HF1.out _ ⟨hB, q0, q1, q4, z0, z1⟩).mono ?_); clear hB q0 q1 q4 z0 z1; rintro e w3 ⟨⟨a1, d1, e1, f1, g1, h1, rfl⟩, hB, q0, q1, q4, z0, z1⟩)
        | (go_at_call 14; (with_reducible refine (HF2.out _ ⟨hB, q0, q1, q4, z0, z1⟩).mono ?_); clear hB q0 q1 q4 z0 z1; rintro e w4 ⟨⟨a2, d2, e2, f2, g3, h2, rfl⟩, hB, q0, q1, q4, z0, z1⟩)
        | (go_at_call 52; refine (HWi.out _ ⟨hB, q0, q1, q4, z0, z1⟩).mono ?_; clear hB q0 q1 q4 z0 z1; rintro e w5 ⟨rfl, hB, q0, q1, q4, z0, z1⟩)
        | (go_at_call 42; (with_reducible refine (HH1.out _ ⟨hB, q0, q1, q4, z0, z1⟩).mono ?_); clear hB q0 q1 q4 z0 z1; rintro e w6 ⟨rfl, hB, q0, q1, q4, z0, z1⟩)
        | (go_at_call 42; (with_reducible refine (HH2.out _ ⟨hB, q0, q1, q4, z0, z1⟩).mono ?_); clear hB q0 q1 q4 z0 z1; rintro e w7 ⟨rfl, hB, q0, q1, q4, z0, z1⟩))
       exact ⟨⟨k + 1, by go_num, by omega, (show Gf _ _ _ _ by rw [HN.out]; exact HGa.out.step hB)⟩, by simp [intOf] <;> omega⟩
      | true =>
       cases b1 with
       | true =>
        have HN : Hid (lnt (rlone apex M) (rfnd apex M) M (k + 1) = l) := HSk.out (by rw [HF.out]; simp [rfnV])
        go_wp2_with (first
         | (go_at_call 62; refine (HH.out _ ⟨hB, q0, q1, q4, z0, z1⟩).mono ?_; clear hB q0 q1 q4 z0 z1; rintro e w1 ⟨rfl, hB, q0, q1, q4, z0, z1⟩)
         | (go_at_call 63; refine (HNm.out _ ⟨hB, q0, q1, q4, z0, z1⟩).mono ?_; clear hB q0 q1 q4 z0 z1; rintro e w2 ⟨⟨g2, c2, rfl, hc2⟩, hB, q0, q1, q4, z0, z1⟩)
         | (go_at_call 14; (with_reducible refine (HF1.out _ ⟨hB, q0, q1, q4, z0, z1⟩).mono ?_); clear hB q0 q1 q4 z0 z1; rintro e w3 ⟨⟨a1, d1, e1, f1, g1, h1, rfl⟩, hB, q0, q1, q4, z0, z1⟩)
         | (go_at_call 14; (with_reducible refine (HF2.out _ ⟨hB, q0, q1, q4, z0, z1⟩).mono ?_); clear hB q0 q1 q4 z0 z1; rintro e w4 ⟨⟨a2, d2, e2, f2, g3, h2, rfl⟩, hB, q0, q1, q4, z0, z1⟩)
         | (go_at_call 52; refine (HWi.out _ ⟨hB, q0, q1, q4, z0, z1⟩).mono ?_; clear hB q0 q1 q4 z0 z1; rintro e w5 ⟨rfl, hB, q0, q1, q4, z0, z1⟩)
         | (go_at_call 42; (with_reducible refine (HH1.out _ ⟨hB, q0, q1, q4, z0, z1⟩).mono ?_); clear hB q0 q1 q4 z0 z1; rintro e w6 ⟨rfl, hB, q0, q1, q4, z0, z1⟩)
         | (go_at_call 42; (with_reducible refine (HH2.out _ ⟨hB, q0, q1, q4, z0, z1⟩).mono ?_); clear hB q0 q1 q4 z0 z1; rintro e w7 ⟨rfl, hB, q0, q1, q4, z0, z1⟩))
        exact ⟨⟨k + 1, by go_num, by omega, (show Gf _ _ _ _ by rw [HN.out]; exact HGa.out.step hB)⟩, by simp [intOf] <;> omega⟩
       | false =>
        cases b2 with
        | true =>
         have HN : Hid (lnt (rlone apex M) (rfnd apex M) M (k + 1) = l) := HSk.out (by rw [HF.out]; simp [rfnV])
         go_wp2_with (first
          | (go_at_call 62; refine (HH.out _ ⟨hB, q0, q1, q4, z0, z1⟩).mono ?_; clear hB q0 q1 q4 z0 z1; rintro e w1 ⟨rfl, hB, q0, q1, q4, z0, z1⟩)
          | (go_at_call 63; refine (HNm.out _ ⟨hB, q0, q1, q4, z0, z1⟩).mono ?_; clear hB q0 q1 q4 z0 z1; rintro e w2 ⟨⟨g2, c2, rfl, hc2⟩, hB, q0, q1, q4, z0, z1⟩)
          | (go_at_call 14; (with_reducible refine (HF1.out _ ⟨hB, q0, q1, q4, z0, z1⟩).mono ?_); clear hB q0 q1 q4 z0 z1; rintro e w3 ⟨⟨a1, d1, e1, f1, g1, h1, rfl⟩, hB, q0, q1, q4, z0, z1⟩)
          | (go_at_call 14; (with_reducible refine (HF2.out _ ⟨hB, q0, q1, q4, z0, z1⟩).mono ?_); clear hB q0 q1 q4 z0 z1; rintro e w4 ⟨⟨a2, d2, e2, f2, g3, h2, rfl⟩, hB, q0, q1, q4, z0, z1⟩)
          | (go_at_call 52; refine (HWi.out _ ⟨hB, q0, q1, q4, z0, z1⟩).mono ?_; clear hB q0 q1 q4 z0 z1; rintro e w5 ⟨rfl, hB, q0, q1, q4, z0, z1⟩)
          | (go_at_call 42; (with_reducible refine (HH1.out _ ⟨hB, q0, q1, q4, z0, z1⟩).mono ?_); clear hB q0 q1 q4 z0 z1; rintro e w6 ⟨rfl, hB, q0, q1, q4, z0, z1⟩)
          | (go_at_call 42; (with_reducible refine (HH2.out _ ⟨hB, q0, q1, q4, z0, z1⟩).mono ?_); clear hB q0 q1 q4 z0 z1; rintro e w7 ⟨rfl, hB, q0, q1, q4, z0, z1⟩))
         exact ⟨⟨k + 1, by go_num, by omega, (show Gf _ _ _ _ by rw [HN.out]; exact HGa.out.step hB)⟩, by simp [intOf] <;> omega⟩
        | false =>
         by_cases h1 : k1 = 1
         ·subst h1
          have HN : Hid (lnt (rlone apex M) (rfnd apex M) M (k + 1) = l) := HSk.out (by rw [HF.out]; simp [rfnV])
          go_wp2_with (first
           | (go_at_call 62; refine (HH.out _ ⟨hB, q0, q1, q4, z0, z1⟩).mono ?_; clear hB q0 q1 q4 z0 z1; rintro e w1 ⟨rfl, hB, q0, q1, q4, z0, z1⟩)
           | (go_at_call 63; refine (HNm.out _ ⟨hB, q0, q1, q4, z0, z1⟩).mono ?_; clear hB q0 q1 q4 z0 z1; rintro e w2 ⟨⟨g2, c2, rfl, hc2⟩, hB, q0, q1, q4, z0, z1⟩)
           | (go_at_call 14; (with_reducible refine (HF1.out _ ⟨hB, q0, q1, q4, z0, z1⟩).mono ?_); clear hB q0 q1 q4 z0 z1; rintro e w3 ⟨⟨a1, d1, e1, f1, g1, h1, rfl⟩, hB, q0, q1, q4, z0, z1⟩)
           | (go_at_call 14; (with_reducible refine (HF2.out _ ⟨hB, q0, q1, q4, z0, z1⟩).mono ?_); clear hB q0 q1 q4 z0 z1; rintro e w4 ⟨⟨a2, d2, e2, f2, g3, h2, rfl⟩, hB, q0, q1, q4, z0, z1⟩)
           | (go_at_call 52; refine (HWi.out _ ⟨hB, q0, q1, q4, z0, z1⟩).mono ?_; clear hB q0 q1 q4 z0 z1; rintro e w5 ⟨rfl, hB, q0, q1, q4, z0, z1⟩)
           | (go_at_call 42; (with_reducible refine (HH1.out _ ⟨hB, q0, q1, q4, z0, z1⟩).mono ?_); clear hB q0 q1 q4 z0 z1; rintro e w6 ⟨rfl, hB, q0, q1, q4, z0, z1⟩)
           | (go_at_call 42; (with_reducible refine (HH2.out _ ⟨hB, q0, q1, q4, z0, z1⟩).mono ?_); clear hB q0 q1 q4 z0 z1; rintro e w7 ⟨rfl, hB, q0, q1, q4, z0, z1⟩))
          exact ⟨⟨k + 1, by go_num, by omega, (show Gf _ _ _ _ by rw [HN.out]; exact HGa.out.step hB)⟩, by simp [intOf] <;> omega⟩
         ·have H1 := hide' h1
          have h1b : (k1 == 1) = false := by simp [h1]
          clear h1
          by_cases h2 : k2 = 1
          ·subst h2
           have HN : Hid (lnt (rlone apex M) (rfnd apex M) M (k + 1) = l) := HSk.out (by rw [HF.out]; simp [rfnV, H1.out])
           go_wp2_with (first
            | (go_at_call 62; refine (HH.out _ ⟨hB, q0, q1, q4, z0, z1⟩).mono ?_; clear hB q0 q1 q4 z0 z1; rintro e w1 ⟨rfl, hB, q0, q1, q4, z0, z1⟩)
            | (go_at_call 63; refine (HNm.out _ ⟨hB, q0, q1, q4, z0, z1⟩).mono ?_; clear hB q0 q1 q4 z0 z1; rintro e w2 ⟨⟨g2, c2, rfl, hc2⟩, hB, q0, q1, q4, z0, z1⟩)
            | (go_at_call 14; (with_reducible refine (HF1.out _ ⟨hB, q0, q1, q4, z0, z1⟩).mono ?_); clear hB q0 q1 q4 z0 z1; rintro e w3 ⟨⟨a1, d1, e1, f1, g1, h1, rfl⟩, hB, q0, q1, q4, z0, z1⟩)
            | (go_at_call 14; (with_reducible refine (HF2.out _ ⟨hB, q0, q1, q4, z0, z1⟩).mono ?_); clear hB q0 q1 q4 z0 z1; rintro e w4 ⟨⟨a2, d2, e2, f2, g3, h2, rfl⟩, hB, q0, q1, q4, z0, z1⟩)
            | (go_at_call 52; refine (HWi.out _ ⟨hB, q0, q1, q4, z0, z1⟩).mono ?_; clear hB q0 q1 q4 z0 z1; rintro e w5 ⟨rfl, hB, q0, q1, q4, z0, z1⟩)
            | (go_at_call 42; (with_reducible refine (HH1.out _ ⟨hB, q0, q1, q4, z0, z1⟩).mono ?_); clear hB q0 q1 q4 z0 z1; rintro e w6 ⟨rfl, hB, q0, q1, q4, z0, z1⟩)
            | (go_at_call 42; (with_reducible refine (HH2.out _ ⟨hB, q0, q1, q4, z0, z1⟩).mono ?_); clear hB q0 q1 q4 z0 z1; rintro e w7 ⟨rfl, hB, q0, q1, q4, z0, z1⟩))
           exact ⟨⟨k + 1, by go_num, by omega, (show Gf _ _ _ _ by rw [HN.out]; exact HGa.out.step hB)⟩, by simp [intOf] <;> omega⟩
          ·have H2 := hide' h2
           have h2b : (k2 == 1) = false := by simp [h2]
           clear h2
           by_cases h3 : k1 = 2
           ·subst h3
            have HN : Hid (lnt (rlone apex M) (rfnd apex M) M (k + 1) = l ++ [⟨2, o, 15, tg⟩]) := HTk.out _ (by rw [HF.out]; simp [rfnV, H2.out])
            have HAP : Hid (∀ V, Below wa.heap.size wa V → _) := fun V hV => HGa.out.app hV ⟨2, o, 15, tg⟩
            go_wp2_with (first
             | (go_at_call 62; refine (HH.out _ ⟨hB, q0, q1, q4, z0, z1⟩).mono ?_; clear hB q0 q1 q4 z0 z1; rintro e w1 ⟨rfl, hB, q0, q1, q4, z0, z1⟩)
             | (go_at_call 63; refine (HNm.out _ ⟨hB, q0, q1, q4, z0, z1⟩).mono ?_; clear hB q0 q1 q4 z0 z1; rintro e w2 ⟨⟨g2, c2, rfl, hc2⟩, hB, q0, q1, q4, z0, z1⟩)
             | (go_at_call 14; (with_reducible refine (HF1.out _ ⟨hB, q0, q1, q4, z0, z1⟩).mono ?_); clear hB q0 q1 q4 z0 z1; rintro e w3 ⟨⟨a1, d1, e1, f1, g1, h1, rfl⟩, hB, q0, q1, q4, z0, z1⟩)
             | (go_at_call 14; (with_reducible refine (HF2.out _ ⟨hB, q0, q1, q4, z0, z1⟩).mono ?_); clear hB q0 q1 q4 z0 z1; rintro e w4 ⟨⟨a2, d2, e2, f2, g3, h2, rfl⟩, hB, q0, q1, q4, z0, z1⟩)
             | (go_at_call 52; refine (HWi.out _ ⟨hB, q0, q1, q4, z0, z1⟩).mono ?_; clear hB q0 q1 q4 z0 z1; rintro e w5 ⟨rfl, hB, q0, q1, q4, z0, z1⟩)
             | (go_at_call 42; (with_reducible refine (HH1.out _ ⟨hB, q0, q1, q4, z0, z1⟩).mono ?_); clear hB q0 q1 q4 z0 z1; rintro e w6 ⟨rfl, hB, q0, q1, q4, z0, z1⟩)
             | (go_at_call 42; (with_reducible refine (HH2.out _ ⟨hB, q0, q1, q4, z0, z1⟩).mono ?_); clear hB q0 q1 q4 z0 z1; rintro e w7 ⟨rfl, hB, q0, q1, q4, z0, z1⟩)
             | (at_builtin; refine wpList_append_rows (V := fnV) Tryz.underlying47 infoFn rfl (by decide) (by decide) fnV_len fnV_one rfl _ _ rfl W.heap.size _ _ _ rfl (HAP.out _ hB).1 (some ⟨_, 0, none⟩) [⟨2, o, 15, tg⟩] 1 rfl (HAP.out _ hB).2.1 (fun e => by cases e) (by have := HLn.out; simp <;> omega) (HAP.out _ hB).2.2.1 ?_; intro v9 w9 ho9 hg9; obtain ⟨p9, c9, rfl, _, _, _⟩ := own_shape ho9; have HO9 := hide' ho9; have HB9 := hide' ((HAP.out _ hB).2.2.2.grown hg9 (HAP.out _ hB).2.2.1 (fun j e => (HAP.out _ hB).1.lt j e |>.1)); clear ho9 hg9))
            exact ⟨⟨k + 1, by go_num, by omega, (show Gf _ _ _ _ by rw [HN.out]; exact Gf.of (p9 := p9) (n9 := 0) (c9 := c9) HO9.out HB9.out)⟩, by simp [intOf] <;> omega⟩
           ·have H3 := hide' h3
            have h3b : (k1 == 2) = false := by simp [h3]
            clear h3
            by_cases h4 : k1 = 4
            ·subst h4
             have HN : Hid (lnt (rlone apex M) (rfnd apex M) M (k + 1) = l) := HSk.out (by rw [HF.out]; simp [rfnV, H2.out])
             go_wp2_with (first
              | (go_at_call 62; refine (HH.out _ ⟨hB, q0, q1, q4, z0, z1⟩).mono ?_; clear hB q0 q1 q4 z0 z1; rintro e w1 ⟨rfl, hB, q0, q1, q4, z0, z1⟩)
              | (go_at_call 63; refine (HNm.out _ ⟨hB, q0, q1, q4, z0, z1⟩).mono ?_; clear hB q0 q1 q4 z0 z1; rintro e w2 ⟨⟨g2, c2, rfl, hc2⟩, hB, q0, q1, q4, z0, z1⟩)
              | (go_at_call 14; (with_reducible refine (HF1.out _ ⟨hB, q0, q1, q4, z0, z1⟩).mono ?_); clear hB q0 q1 q4 z0 z1; rintro e w3 ⟨⟨a1, d1, e1, f1, g1, h1, rfl⟩, hB, q0, q1, q4, z0, z1⟩)
              | (go_at_call 14; (with_reducible refine (HF2.out _ ⟨hB, q0, q1, q4, z0, z1⟩).mono ?_); clear hB q0 q1 q4 z0 z1; rintro e w4 ⟨⟨a2, d2, e2, f2, g3, h2, rfl⟩, hB, q0, q1, q4, z0, z1⟩)
              | (go_at_call 52; refine (HWi.out _ ⟨hB, q0, q1, q4, z0, z1⟩).mono ?_; clear hB q0 q1 q4 z0 z1; rintro e w5 ⟨rfl, hB, q0, q1, q4, z0, z1⟩)
              | (go_at_call 42; (with_reducible refine (HH1.out _ ⟨hB, q0, q1, q4, z0, z1⟩).mono ?_); clear hB q0 q1 q4 z0 z1; rintro e w6 ⟨rfl, hB, q0, q1, q4, z0, z1⟩)
              | (go_at_call 42; (with_reducible refine (HH2.out _ ⟨hB, q0, q1, q4, z0, z1⟩).mono ?_); clear hB q0 q1 q4 z0 z1; rintro e w7 ⟨rfl, hB, q0, q1, q4, z0, z1⟩))
             exact ⟨⟨k + 1, by go_num, by omega, (show Gf _ _ _ _ by rw [HN.out]; exact HGa.out.step hB)⟩, by simp [intOf] <;> omega⟩
            ·have H4 := hide' h4
             have h4b : (k1 == 4) = false := by simp [h4]
             clear h4
             by_cases h5 : tg = ⟨#[0]⟩
             ·subst h5
              have HN : Hid (lnt (rlone apex M) (rfnd apex M) M (k + 1) = l) := HSk.out (by rw [HF.out]; simp [rfnV, H1.out, H2.out, H3.out, H4.out])
              go_wp2_with (first
               | (go_at_call 62; refine (HH.out _ ⟨hB, q0, q1, q4, z0, z1⟩).mono ?_; clear hB q0 q1 q4 z0 z1; rintro e w1 ⟨rfl, hB, q0, q1, q4, z0, z1⟩)
               | (go_at_call 63; refine (HNm.out _ ⟨hB, q0, q1, q4, z0, z1⟩).mono ?_; clear hB q0 q1 q4 z0 z1; rintro e w2 ⟨⟨g2, c2, rfl, hc2⟩, hB, q0, q1, q4, z0, z1⟩)
               | (go_at_call 14; (with_reducible refine (HF1.out _ ⟨hB, q0, q1, q4, z0, z1⟩).mono ?_); clear hB q0 q1 q4 z0 z1; rintro e w3 ⟨⟨a1, d1, e1, f1, g1, h1, rfl⟩, hB, q0, q1, q4, z0, z1⟩)
               | (go_at_call 14; (with_reducible refine (HF2.out _ ⟨hB, q0, q1, q4, z0, z1⟩).mono ?_); clear hB q0 q1 q4 z0 z1; rintro e w4 ⟨⟨a2, d2, e2, f2, g3, h2, rfl⟩, hB, q0, q1, q4, z0, z1⟩)
               | (go_at_call 52; refine (HWi.out _ ⟨hB, q0, q1, q4, z0, z1⟩).mono ?_; clear hB q0 q1 q4 z0 z1; rintro e w5 ⟨rfl, hB, q0, q1, q4, z0, z1⟩)
               | (go_at_call 42; (with_reducible refine (HH1.out _ ⟨hB, q0, q1, q4, z0, z1⟩).mono ?_); clear hB q0 q1 q4 z0 z1; rintro e w6 ⟨rfl, hB, q0, q1, q4, z0, z1⟩)
               | (go_at_call 42; (with_reducible refine (HH2.out _ ⟨hB, q0, q1, q4, z0, z1⟩).mono ?_); clear hB q0 q1 q4 z0 z1; rintro e w7 ⟨rfl, hB, q0, q1, q4, z0, z1⟩))
              exact ⟨⟨k + 1, by go_num, by omega, (show Gf _ _ _ _ by rw [HN.out]; exact HGa.out.step hB)⟩, by simp [intOf] <;> omega⟩
             ·have H5 := hide' h5
              have h5a := root_toList h5
              have h5b : (tg.toList == [0]) = false := by simp [h5a]
              clear h5
              have HN : Hid (lnt (rlone apex M) (rfnd apex M) M (k + 1) = l ++ [⟨3, o, 15, tg⟩]) := HTk.out _ (by rw [HF.out]; simp [rfnV, H1.out, H2.out, H3.out, H4.out, H5.out])
              have HAP : Hid (∀ V, Below wa.heap.size wa V → _) := fun V hV => HGa.out.app hV ⟨3, o, 15, tg⟩
              go_wp2_with (first
               | (go_at_call 62; refine (HH.out _ ⟨hB, q0, q1, q4, z0, z1⟩).mono ?_; clear hB q0 q1 q4 z0 z1; rintro e w1 ⟨rfl, hB, q0, q1, q4, z0, z1⟩)
               | (go_at_call 63; refine (HNm.out _ ⟨hB, q0, q1, q4, z0, z1⟩).mono ?_; clear hB q0 q1 q4 z0 z1; rintro e w2 ⟨⟨g2, c2, rfl, hc2⟩, hB, q0, q1, q4, z0, z1⟩)
               | (go_at_call 14; (with_reducible refine (HF1.out _ ⟨hB, q0, q1, q4, z0, z1⟩).mono ?_); clear hB q0 q1 q4 z0 z1; rintro e w3 ⟨⟨a1, d1, e1, f1, g1, h1, rfl⟩, hB, q0, q1, q4, z0, z1⟩)
               | (go_at_call 14; (with_reducible refine (HF2.out _ ⟨hB, q0, q1, q4, z0, z1⟩).mono ?_); clear hB q0 q1 q4 z0 z1; rintro e w4 ⟨⟨a2, d2, e2, f2, g3, h2, rfl⟩, hB, q0, q1, q4, z0, z1⟩)
               | (go_at_call 52; refine (HWi.out _ ⟨hB, q0, q1, q4, z0, z1⟩).mono ?_; clear hB q0 q1 q4 z0 z1; rintro e w5 ⟨rfl, hB, q0, q1, q4, z0, z1⟩)
               | (go_at_call 42; (with_reducible refine (HH1.out _ ⟨hB, q0, q1, q4, z0, z1⟩).mono ?_); clear hB q0 q1 q4 z0 z1; rintro e w6 ⟨rfl, hB, q0, q1, q4, z0, z1⟩)
               | (go_at_call 42; (with_reducible refine (HH2.out _ ⟨hB, q0, q1, q4, z0, z1⟩).mono ?_); clear hB q0 q1 q4 z0 z1; rintro e w7 ⟨rfl, hB, q0, q1, q4, z0, z1⟩)
               | (at_builtin; refine wpList_append_rows (V := fnV) Tryz.underlying47 infoFn rfl (by decide) (by decide) fnV_len fnV_one rfl _ _ rfl W.heap.size _ _ _ rfl (HAP.out _ hB).1 (some ⟨_, 0, none⟩) [⟨3, o, 15, tg⟩] 1 rfl (HAP.out _ hB).2.1 (fun e => by cases e) (by have := HLn.out; simp <;> omega) (HAP.out _ hB).2.2.1 ?_; intro v9 w9 ho9 hg9; obtain ⟨p9, c9, rfl, _, _, _⟩ := own_shape ho9; have HO9 := hide' ho9; have HB9 := hide' ((HAP.out _ hB).2.2.2.grown hg9 (HAP.out _ hB).2.2.1 (fun j e => (HAP.out _ hB).1.lt j e |>.1)); clear ho9 hg9))
              exact ⟨⟨k + 1, by go_num, by omega, (show Gf _ _ _ _ by rw [HN.out]; exact Gf.of (p9 := p9) (n9 := 0) (c9 := c9) HO9.out HB9.out)⟩, by simp [intOf] <;> omega⟩
     ·cases Wi with
      | false =>
       have HN : Hid (lnt (rlone apex M) (rfnd apex M) M (k + 1) = l) := HSk.out (by rw [HF.out]; simp [rfnV])
       go_wp2_with (first
        | (go_at_call 62; refine (HH.out _ ⟨hB, q0, q1, q4, z0, z1⟩).mono ?_; clear hB q0 q1 q4 z0 z1; rintro e w1 ⟨rfl, hB, q0, q1, q4, z0, z1⟩)
        | (go_at_call 63; refine (HNm.out _ ⟨hB, q0, q1, q4, z0, z1⟩).mono ?_; clear hB q0 q1 q4 z0 z1; rintro e w2 ⟨⟨g2, c2, rfl, hc2⟩, hB, q0, q1, q4, z0, z1⟩)
        | (go_at_call 14; (with_reducible refine (HF1.out _ ⟨hB, q0, q1, q4, z0, z1⟩).mono ?_); clear hB q0 q1 q4 z0 z1; rintro e w3 ⟨⟨a1, d1, e1, f1, g1, h1, rfl⟩, hB, q0, q1, q4, z0, z1⟩)
        | (go_at_call 14; (with_reducible refine (HF2.out _ ⟨hB, q0, q1, q4, z0, z1⟩).mono ?_); clear hB q0 q1 q4 z0 z1; rintro e w4 ⟨⟨a2, d2, e2, f2, g3, h2, rfl⟩, hB, q0, q1, q4, z0, z1⟩)
        | (go_at_call 52; refine (HWi.out _ ⟨hB, q0, q1, q4, z0, z1⟩).mono ?_; clear hB q0 q1 q4 z0 z1; rintro e w5 ⟨rfl, hB, q0, q1, q4, z0, z1⟩)
        | (go_at_call 42; (with_reducible refine (HH1.out _ ⟨hB, q0, q1, q4, z0, z1⟩).mono ?_); clear hB q0 q1 q4 z0 z1; rintro e w6 ⟨rfl, hB, q0, q1, q4, z0, z1⟩)
        | (go_at_call 42; (with_reducible refine (HH2.out _ ⟨hB, q0, q1, q4, z0, z1⟩).mono ?_); clear hB q0 q1 q4 z0 z1; rintro e w7 ⟨rfl, hB, q0, q1, q4, z0, z1⟩))
       exact ⟨⟨k + 1, by go_num, by omega, (show Gf _ _ _ _ by rw [HN.out]; exact HGa.out.step hB)⟩, by simp [intOf] <;> omega⟩
      | true =>
       cases b1 with
       | true =>
        have HN : Hid (lnt (rlone apex M) (rfnd apex M) M (k + 1) = l) := HSk.out (by rw [HF.out]; simp [rfnV])
        go_wp2_with (first
         | (go_at_call 62; refine (HH.out _ ⟨hB, q0, q1, q4, z0, z1⟩).mono ?_; clear hB q0 q1 q4 z0 z1; rintro e w1 ⟨rfl, hB, q0, q1, q4, z0, z1⟩)
         | (go_at_call 63; refine (HNm.out _ ⟨hB, q0, q1, q4, z0, z1⟩).mono ?_; clear hB q0 q1 q4 z0 z1; rintro e w2 ⟨⟨g2, c2, rfl, hc2⟩, hB, q0, q1, q4, z0, z1⟩)
         | (go_at_call 14; (with_reducible refine (HF1.out _ ⟨hB, q0, q1, q4, z0, z1⟩).mono ?_); clear hB q0 q1 q4 z0 z1; rintro e w3 ⟨⟨a1, d1, e1, f1, g1, h1, rfl⟩, hB, q0, q1, q4, z0, z1⟩)
         | (go_at_call 14; (with_reducible refine (HF2.out _ ⟨hB, q0, q1, q4, z0, z1⟩).mono ?_); clear hB q0 q1 q4 z0 z1; rintro e w4 ⟨⟨a2, d2, e2, f2, g3, h2, rfl⟩, hB, q0, q1, q4, z0, z1⟩)
         | (go_at_call 52; refine (HWi.out _ ⟨hB, q0, q1, q4, z0, z1⟩).mono ?_; clear hB q0 q1 q4 z0 z1; rintro e w5 ⟨rfl, hB, q0, q1, q4, z0, z1⟩)
         | (go_at_call 42; (with_reducible refine (HH1.out _ ⟨hB, q0, q1, q4, z0, z1⟩).mono ?_); clear hB q0 q1 q4 z0 z1; rintro e w6 ⟨rfl, hB, q0, q1, q4, z0, z1⟩)
         | (go_at_call 42; (with_reducible refine (HH2.out _ ⟨hB, q0, q1, q4, z0, z1⟩).mono ?_); clear hB q0 q1 q4 z0 z1; rintro e w7 ⟨rfl, hB, q0, q1, q4, z0, z1⟩))
        exact ⟨⟨k + 1, by go_num, by omega, (show Gf _ _ _ _ by rw [HN.out]; exact HGa.out.step hB)⟩, by simp [intOf] <;> omega⟩
       | false =>
        cases b2 with
        | true =>
         have HN : Hid (lnt (rlone apex M) (rfnd apex M) M (k + 1) = l) := HSk.out (by rw [HF.out]; simp [rfnV])
         go_wp2_with (first
          | (go_at_call 62; refine (HH.out _ ⟨hB, q0, q1, q4, z0, z1⟩).mono ?_; clear hB q0 q1 q4 z0 z1; rintro e w1 ⟨rfl, hB, q0, q1, q4, z0, z1⟩)
          | (go_at_call 63; refine (HNm.out _ ⟨hB, q0, q1, q4, z0, z1⟩).mono ?_; clear hB q0 q1 q4 z0 z1; rintro e w2 ⟨⟨g2, c2, rfl, hc2⟩, hB, q0, q1, q4, z0, z1⟩)
          | (go_at_call 14; (with_reducible refine (HF1.out _ ⟨hB, q0, q1, q4, z0, z1⟩).mono ?_); clear hB q0 q1 q4 z0 z1; rintro e w3 ⟨⟨a1, d1, e1, f1, g1, h1, rfl⟩, hB, q0, q1, q4, z0, z1⟩)
          | (go_at_call 14; (with_reducible refine (HF2.out _ ⟨hB, q0, q1, q4, z0, z1⟩).mono ?_); clear hB q0 q1 q4 z0 z1; rintro e w4 ⟨⟨a2, d2, e2, f2, g3, h2, rfl⟩, hB, q0, q1, q4, z0, z1⟩)
          | (go_at_call 52; refine (HWi.out _ ⟨hB, q0, q1, q4, z0, z1⟩).mono ?_; clear hB q0 q1 q4 z0 z1; rintro e w5 ⟨rfl, hB, q0, q1, q4, z0, z1⟩)
          | (go_at_call 42; (with_reducible refine (HH1.out _ ⟨hB, q0, q1, q4, z0, z1⟩).mono ?_); clear hB q0 q1 q4 z0 z1; rintro e w6 ⟨rfl, hB, q0, q1, q4, z0, z1⟩)
          | (go_at_call 42; (with_reducible refine (HH2.out _ ⟨hB, q0, q1, q4, z0, z1⟩).mono ?_); clear hB q0 q1 q4 z0 z1; rintro e w7 ⟨rfl, hB, q0, q1, q4, z0, z1⟩))
         exact ⟨⟨k + 1, by go_num, by omega, (show Gf _ _ _ _ by rw [HN.out]; exact HGa.out.step hB)⟩, by simp [intOf] <;> omega⟩
        | false =>
         by_cases h1 : k1 = 1
         ·subst h1
          have HN : Hid (lnt (rlone apex M) (rfnd apex M) M (k + 1) = l) := HSk.out (by rw [HF.out]; simp [rfnV])
          go_wp2_with (first
           | (go_at_call 62; refine (HH.out _ ⟨hB, q0, q1, q4, z0, z1⟩).mono ?_; clear hB q0 q1 q4 z0 z1; rintro e w1 ⟨rfl, hB, q0, q1, q4, z0, z1⟩)
           | (go_at_call 63; refine (HNm.out _ ⟨hB, q0, q1, q4, z0, z1⟩).mono ?_; clear hB q0 q1 q4 z0 z1; rintro e w2 ⟨⟨g2, c2, rfl, hc2⟩, hB, q0, q1, q4, z0, z1⟩)
           | (go_at_call 14; (with_reducible refine (HF1.out _ ⟨hB, q0, q1, q4, z0, z1⟩).mono ?_); clear hB q0 q1 q4 z0 z1; rintro e w3 ⟨⟨a1, d1, e1, f1, g1, h1, rfl⟩, hB, q0, q1, q4, z0, z1⟩)
           | (go_at_call 14; (with_reducible refine (HF2.out _ ⟨hB, q0, q1, q4, z0, z1⟩).mono ?_); clear hB q0 q1 q4 z0 z1; rintro e w4 ⟨⟨a2, d2, e2, f2, g3, h2, rfl⟩, hB, q0, q1, q4, z0, z1⟩)
           | (go_at_call 52; refine (HWi.out _ ⟨hB, q0, q1, q4, z0, z1⟩).mono ?_; clear hB q0 q1 q4 z0 z1; rintro e w5 ⟨rfl, hB, q0, q1, q4, z0, z1⟩)
           | (go_at_call 42; (with_reducible refine (HH1.out _ ⟨hB, q0, q1, q4, z0, z1⟩).mono ?_); clear hB q0 q1 q4 z0 z1; rintro e w6 ⟨rfl, hB, q0, q1, q4, z0, z1⟩)
           | (go_at_call 42; (with_reducible refine (HH2.out _ ⟨hB, q0, q1, q4, z0, z1⟩).mono ?_); clear hB q0 q1 q4 z0 z1; rintro e w7 ⟨rfl, hB, q0, q1, q4, z0, z1⟩))
          exact ⟨⟨k + 1, by go_num, by omega, (show Gf _ _ _ _ by rw [HN.out]; exact HGa.out.step hB)⟩, by simp [intOf] <;> omega⟩
         ·have H1 := hide' h1
          have h1b : (k1 == 1) = false := by simp [h1]
          clear h1
          by_cases h2 : k2 = 1
          ·subst h2
           have HN : Hid (lnt (rlone apex M) (rfnd apex M) M (k + 1) = l) := HSk.out (by rw [HF.out]; simp [rfnV, H1.out])
           go_wp2_with (first
            | (go_at_call 62; refine (HH.out _ ⟨hB, q0, q1, q4, z0, z1⟩).mono ?_; clear hB q0 q1 q4 z0 z1; rintro e w1 ⟨rfl, hB, q0, q1, q4, z0, z1⟩)
            | (go_at_call 63; refine (HNm.out _ ⟨hB, q0, q1, q4, z0, z1⟩).mono ?_; clear hB q0 q1 q4 z0 z1; rintro e w2 ⟨⟨g2, c2, rfl, hc2⟩, hB, q0, q1, q4, z0, z1⟩)
            | (go_at_call 14; (with_reducible refine (HF1.out _ ⟨hB, q0, q1, q4, z0, z1⟩).mono ?_); clear hB q0 q1 q4 z0 z1; rintro e w3 ⟨⟨a1, d1, e1, f1, g1, h1, rfl⟩, hB, q0, q1, q4, z0, z1⟩)
            | (go_at_call 14; (with_reducible refine (HF2.out _ ⟨hB, q0, q1, q4, z0, z1⟩).mono ?_); clear hB q0 q1 q4 z0 z1; rintro e w4 ⟨⟨a2, d2, e2, f2, g3, h2, rfl⟩, hB, q0, q1, q4, z0, z1⟩)
            | (go_at_call 52; refine (HWi.out _ ⟨hB, q0, q1, q4, z0, z1⟩).mono ?_; clear hB q0 q1 q4 z0 z1; rintro e w5 ⟨rfl, hB, q0, q1, q4, z0, z1⟩)
            | (go_at_call 42; (with_reducible refine (HH1.out _ ⟨hB, q0, q1, q4, z0, z1⟩).mono ?_); clear hB q0 q1 q4 z0 z1; rintro e w6 ⟨rfl, hB, q0, q1, q4, z0, z1⟩)
            | (go_at_call 42; (with_reducible refine (HH2.out _ ⟨hB, q0, q1, q4, z0, z1⟩).mono ?_); clear hB q0 q1 q4 z0 z1; rintro e w7 ⟨rfl, hB, q0, q1, q4, z0, z1⟩))
           exact ⟨⟨k + 1, by go_num, by omega, (show Gf _ _ _ _ by rw [HN.out]; exact HGa.out.step hB)⟩, by simp [intOf] <;> omega⟩
          ·have H2 := hide' h2
           have h2b : (k2 == 1) = false := by simp [h2]
           clear h2
           by_cases h3 : k1 = 2
           ·subst h3
            have HN : Hid (lnt (rlone apex M) (rfnd apex M) M (k + 1) = l ++ [⟨2, o, 33, tg⟩]) := HTk.out _ (by rw [HF.out]; simp [rfnV, H2.out])
            have HAP : Hid (∀ V, Below wa.heap.size wa V → _) := fun V hV => HGa.out.app hV ⟨2, o, 33, tg⟩
            go_wp2_with (first
             | (go_at_call 62; refine (HH.out _ ⟨hB, q0, q1, q4, z0, z1⟩).mono ?_; clear hB q0 q1 q4 z0 z1; rintro e w1 ⟨rfl, hB, q0, q1, q4, z0, z1⟩)
             | (go_at_call 63; refine (HNm.out _ ⟨hB, q0, q1, q4, z0, z1⟩).mono ?_; clear hB q0 q1 q4 z0 z1; rintro e w2 ⟨⟨g2, c2, rfl, hc2⟩, hB, q0, q1, q4, z0, z1⟩)
             | (go_at_call 14; (with_reducible refine (HF1.out _ ⟨hB, q0, q1, q4, z0, z1⟩).mono ?_); clear hB q0 q1 q4 z0 z1; rintro e w3 ⟨⟨a1, d1, e1, f1, g1, h1, rfl⟩, hB, q0, q1, q4, z0, z1⟩)
             | (go_at_call 14; (with_reducible refine (HF2.out _ ⟨hB, q0, q1, q4, z0, z1⟩).mono ?_); clear hB q0 q1 q4 z0 z1; rintro e w4 ⟨⟨a2, d2, e2, f2, g3, h2, rfl⟩, hB, q0, q1, q4, z0, z1⟩)
             | (go_at_call 52; refine (HWi.out _ ⟨hB, q0, q1, q4, z0, z1⟩).mono ?_; clear hB q0 q1 q4 z0 z1; rintro e w5 ⟨rfl, hB, q0, q1, q4, z0, z1⟩)
             | (go_at_call 42; (with_reducible refine (HH1.out _ ⟨hB, q0, q1, q4, z0, z1⟩).mono ?_); clear hB q0 q1 q4 z0 z1; rintro e w6 ⟨rfl, hB, q0, q1, q4, z0, z1⟩)
             | (go_at_call 42; (with_reducible refine (HH2.out _ ⟨hB, q0, q1, q4, z0, z1⟩).mono ?_); clear hB q0 q1 q4 z0 z1; rintro e w7 ⟨rfl, hB, q0, q1, q4, z0, z1⟩)
             | (at_builtin; refine wpList_append_rows (V := fnV) Tryz.underlying47 infoFn rfl (by decide) (by decide) fnV_len fnV_one rfl _ _ rfl W.heap.size _ _ _ rfl (HAP.out _ hB).1 (some ⟨_, 0, none⟩) [⟨2, o, 33, tg⟩] 1 rfl (HAP.out _ hB).2.1 (fun e => by cases e) (by have := HLn.out; simp <;> omega) (HAP.out _ hB).2.2.1 ?_; intro v9 w9 ho9 hg9; obtain ⟨p9, c9, rfl, _, _, _⟩ := own_shape ho9; have HO9 := hide' ho9; have HB9 := hide' ((HAP.out _ hB).2.2.2.grown hg9 (HAP.out _ hB).2.2.1 (fun j e => (HAP.out _ hB).1.lt j e |>.1)); clear ho9 hg9))
            exact ⟨⟨k + 1, by go_num, by omega, (show Gf _ _ _ _ by rw [HN.out]; exact Gf.of (p9 := p9) (n9 := 0) (c9 := c9) HO9.out HB9.out)⟩, by simp [intOf] <;> omega⟩
           ·have H3 := hide' h3
            have h3b : (k1 == 2) = false := by simp [h3]
            clear h3
            by_cases h4 : k1 = 4
            ·subst h4
             have HN : Hid (lnt (rlone apex M) (rfnd apex M) M (k + 1) = l) := HSk.out (by rw [HF.out]; simp [rfnV, H2.out])
             go_wp2_with (first
              | (go_at_call 62; refine (HH.out _ ⟨hB, q0, q1, q4, z0, z1⟩).mono ?_; clear hB q0 q1 q4 z0 z1; rintro e w1 ⟨rfl, hB, q0, q1, q4, z0, z1⟩)
              | (go_at_call 63; refine (HNm.out _ ⟨hB, q0, q1, q4, z0, z1⟩).mono ?_; clear hB q0 q1 q4 z0 z1; rintro e w2 ⟨⟨g2, c2, rfl, hc2⟩, hB, q0, q1, q4, z0, z1⟩)
              | (go_at_call 14; (with_reducible refine (HF1.out _ ⟨hB, q0, q1, q4, z0, z1⟩).mono ?_); clear hB q0 q1 q4 z0 z1; rintro e w3 ⟨⟨a1, d1, e1, f1, g1, h1, rfl⟩, hB, q0, q1, q4, z0, z1⟩)
              | (go_at_call 14; (with_reducible refine (HF2.out _ ⟨hB, q0, q1, q4, z0, z1⟩).mono ?_); clear hB q0 q1 q4 z0 z1; rintro e w4 ⟨⟨a2, d2, e2, f2, g3, h2, rfl⟩, hB, q0, q1, q4, z0, z1⟩)
              | (go_at_call 52; refine (HWi.out _ ⟨hB, q0, q1, q4, z0, z1⟩).mono ?_; clear hB q0 q1 q4 z0 z1; rintro e w5 ⟨rfl, hB, q0, q1, q4, z0, z1⟩)
              | (go_at_call 42; (with_reducible refine (HH1.out _ ⟨hB, q0, q1, q4, z0, z1⟩).mono ?_); clear hB q0 q1 q4 z0 z1; rintro e w6 ⟨rfl, hB, q0, q1, q4, z0, z1⟩)
              | (go_at_call 42; (with_reducible refine (HH2.out _ ⟨hB, q0, q1, q4, z0, z1⟩).mono ?_); clear hB q0 q1 q4 z0 z1; rintro e w7 ⟨rfl, hB, q0, q1, q4, z0, z1⟩))
             exact ⟨⟨k + 1, by go_num, by omega, (show Gf _ _ _ _ by rw [HN.out]; exact HGa.out.step hB)⟩, by simp [intOf] <;> omega⟩
            ·have H4 := hide' h4
             have h4b : (k1 == 4) = false := by simp [h4]
             clear h4
             by_cases h5 : tg = ⟨#[0]⟩
             ·subst h5
              have HN : Hid (lnt (rlone apex M) (rfnd apex M) M (k + 1) = l) := HSk.out (by rw [HF.out]; simp [rfnV, H1.out, H2.out, H3.out, H4.out])
              go_wp2_with (first
               | (go_at_call 62; refine (HH.out _ ⟨hB, q0, q1, q4, z0, z1⟩).mono ?_; clear hB q0 q1 q4 z0 z1; rintro e w1 ⟨rfl, hB, q0, q1, q4, z0, z1⟩)
               | (go_at_call 63; refine (HNm.out _ ⟨hB, q0, q1, q4, z0, z1⟩).mono ?_; clear hB q0 q1 q4 z0 z1; rintro e w2 ⟨⟨g2, c2, rfl, hc2⟩, hB, q0, q1, q4, z0, z1⟩)
               | (go_at_call 14; (with_reducible refine (HF1.out _ ⟨hB, q0, q1, q4, z0, z1⟩).mono ?_); clear hB q0 q1 q4 z0 z1; rintro e w3 ⟨⟨a1, d1, e1, f1, g1, h1, rfl⟩, hB, q0, q1, q4, z0, z1⟩)
               | (go_at_call 14; (with_reducible refine (HF2.out _ ⟨hB, q0, q1, q4, z0, z1⟩).mono ?_); clear hB q0 q1 q4 z0 z1; rintro e w4 ⟨⟨a2, d2, e2, f2, g3, h2, rfl⟩, hB, q0, q1, q4, z0, z1⟩)
               | (go_at_call 52; refine (HWi.out _ ⟨hB, q0, q1, q4, z0, z1⟩).mono ?_; clear hB q0 q1 q4 z0 z1; rintro e w5 ⟨rfl, hB, q0, q1, q4, z0, z1⟩)
               | (go_at_call 42; (with_reducible refine (HH1.out _ ⟨hB, q0, q1, q4, z0, z1⟩).mono ?_); clear hB q0 q1 q4 z0 z1; rintro e w6 ⟨rfl, hB, q0, q1, q4, z0, z1⟩)
               | (go_at_call 42; (with_reducible refine (HH2.out _ ⟨hB, q0, q1, q4, z0, z1⟩).mono ?_); clear hB q0 q1 q4 z0 z1; rintro e w7 ⟨rfl, hB, q0, q1, q4, z0, z1⟩))
              exact ⟨⟨k + 1, by go_num, by omega, (show Gf _ _ _ _ by rw [HN.out]; exact HGa.out.step hB)⟩, by simp [intOf] <;> omega⟩
             ·have H5 := hide' h5
              have h5a := root_toList h5
              have h5b : (tg.toList == [0]) = false := by simp [h5a]
              clear h5
              have HN : Hid (lnt (rlone apex M) (rfnd apex M) M (k + 1) = l ++ [⟨3, o, 33, tg⟩]) := HTk.out _ (by rw [HF.out]; simp [rfnV, H1.out, H2.out, H3.out, H4.out, H5.out])
              have HAP : Hid (∀ V, Below wa.heap.size wa V → _) := fun V hV => HGa.out.app hV ⟨3, o, 33, tg⟩
              go_wp2_with (first
               | (go_at_call 62; refine (HH.out _ ⟨hB, q0, q1, q4, z0, z1⟩).mono ?_; clear hB q0 q1 q4 z0 z1; rintro e w1 ⟨rfl, hB, q0, q1, q4, z0, z1⟩)
               | (go_at_call 63; refine (HNm.out _ ⟨hB, q0, q1, q4, z0, z1⟩).mono ?_; clear hB q0 q1 q4 z0 z1; rintro e w2 ⟨⟨g2, c2, rfl, hc2⟩, hB, q0, q1, q4, z0, z1⟩)
               | (go_at_call 14; (with_reducible refine (HF1.out _ ⟨hB, q0, q1, q4, z0, z1⟩).mono ?_); clear hB q0 q1 q4 z0 z1; rintro e w3 ⟨⟨a1, d1, e1, f1, g1, h1, rfl⟩, hB, q0, q1, q4, z0, z1⟩)
               | (go_at_call 14; (with_reducible refine (HF2.out _ ⟨hB, q0, q1, q4, z0, z1⟩).mono ?_); clear hB q0 q1 q4 z0 z1; rintro e w4 ⟨⟨a2, d2, e2, f2, g3, h2, rfl⟩, hB, q0, q1, q4, z0, z1⟩)
               | (go_at_call 52; refine (HWi.out _ ⟨hB, q0, q1, q4, z0, z1⟩).mono ?_; clear hB q0 q1 q4 z0 z1; rintro e w5 ⟨rfl, hB, q0, q1, q4, z0, z1⟩)
               | (go_at_call 42; (with_reducible refine (HH1.out _ ⟨hB, q0, q1, q4, z0, z1⟩).mono ?_); clear hB q0 q1 q4 z0 z1; rintro e w6 ⟨rfl, hB, q0, q1, q4, z0, z1⟩)
               | (go_at_call 42; (with_reducible refine (HH2.out _ ⟨hB, q0, q1, q4, z0, z1⟩).mono ?_); clear hB q0 q1 q4 z0 z1; rintro e w7 ⟨rfl, hB, q0, q1, q4, z0, z1⟩)
               | (at_builtin; refine wpList_append_rows (V := fnV) Tryz.underlying47 infoFn rfl (by decide) (by decide) fnV_len fnV_one rfl _ _ rfl W.heap.size _ _ _ rfl (HAP.out _ hB).1 (some ⟨_, 0, none⟩) [⟨3, o, 33, tg⟩] 1 rfl (HAP.out _ hB).2.1 (fun e => by cases e) (by have := HLn.out; simp <;> omega) (HAP.out _ hB).2.2.1 ?_; intro v9 w9 ho9 hg9; obtain ⟨p9, c9, rfl, _, _, _⟩ := own_shape ho9; have HO9 := hide' ho9; have HB9 := hide' ((HAP.out _ hB).2.2.2.grown hg9 (HAP.out _ hB).2.2.1 (fun j e => (HAP.out _ hB).1.lt j e |>.1)); clear ho9 hg9))
              exact ⟨⟨k + 1, by go_num, by omega, (show Gf _ _ _ _ by rw [HN.out]; exact Gf.of (p9 := p9) (n9 := 0) (c9 := c9) HO9.out HB9.out)⟩, by simp [intOf] <;> omega⟩
    ·have HN : Hid (lnt (rlone apex M) (rfnd apex M) M (k + 1) = l) := HSk.out (by rw [HF.out]; simp only [rfnV, Bool.false_eq_true, if_false]; rw [if_pos ⟨fun e => ht (Or.inl e), fun e => ht (Or.inr (Or.inl e)), fun e => ht (Or.inr (Or.inr e))⟩])
     have h1 : (t != 2) = true := by simp; intro e; exact ht (Or.inl e)
     have h2 : (t != 15) = true := by simp; intro e; exact ht (Or.inr (Or.inl e))
     have h3 : (t != 33) = true := by simp; intro e; exact ht (Or.inr (Or.inr e))
     clear ht
     go_wp2_with (go_at_call 62; refine (HH.out _ ⟨hB, q0, q1, q4, z0, z1⟩).mono ?_; clear hB q0 q1 q4 z0 z1; rintro e w1 ⟨rfl, hB, q0, q1, q4, z0, z1⟩)
     exact ⟨⟨k + 1, by go_num, by omega, (show Gf _ _ _ _ by rw [HN.out]; exact HGa.out.step hB)⟩, by simp [intOf] <;> omega⟩
  ·obtain rfl : k = M.length := by omega
   go_wp2_with fail
   go_ret
   exact ⟨_, rfl, (show Gf _ _ _ _ by rw [HLB.out]; exact HG.out)⟩
set_option maxRecDepth 100000 in
set_option maxHeartbeats 4000000 in
theorem rlint_any {zb : Nat} {apex : ByteArray} {M : List Rn} {p : Option Addr} {c : Nat} {W : World} (h : Yz W zb apex M p c) (na : isN apex = true) (hin : ∀ r ∈ M, withinB r.o apex = true) (hra : rth M apex = true) :
  Calls Tryz.prog 24 #[.pointer (some ⟨zb, 0, none⟩)] W fun r w' => ∃ ov, r = .returned ov ∧ Gf W w' (rlintB apex M) ov := by
 have hap := ((isN_iff _).1 na).1
 have HSe := hide' (rset_any h apex 2 (by omega))
 have HTail := hide' (fun w9 ov hg => rlint_tail h na hin hra w9 ov hg)
 have HZ : Hid (∀ V, Below W.heap.size W V → V.cell? ⟨zb, 0, none⟩ = some (.string apex) ∧ V.cell? ⟨zb, 1, none⟩ = some (.slice p M.length c)) := fun V hV => ⟨(h.step hV).yx.cell rfl, (h.step hV).yx.cell rfl⟩
 clear h hra hin na
 have hB := Below.refl W.heap.size W
 obtain ⟨z0, z1⟩ := HZ.out _ hB
 have HLo : Hid (rlone apex M = if (rset M apex 2).length = 1 then [⟨1, apex, 2, ⟨#[]⟩⟩] else []) := rfl
 obtain ⟨X, hX⟩ : ∃ X, rset M apex 2 = X := ⟨_, rfl⟩
 rw [hX] at HSe HLo
 clear hX
 by_cases h1 : X.length = 1
 ·have HA : Hid (rlone apex M = [⟨1, apex, 2, ⟨#[]⟩⟩]) := by unfold Hid; rw [HLo.out, if_pos h1]
  have h1b : ((X.length : Int) == 1) = true := by simp; omega
  have HAP : Hid (∀ V, Below W.heap.size W V → _) := fun V hV => (Gf.mk (row_nil W _ _ _) (Below.refl _ W) : Gf W W [] _).app hV ⟨1, apex, 2, ⟨#[]⟩⟩
  have HLn : Hid (([] : List Fn).length ≤ 1) := Nat.zero_le _
  clear h1 HLo
  go_enter Tryz.func24, Tryz.ntmps24
  go_upto_region 2 with fail
  rename_i K1 hk1 K2 hk2
  have HK := hide' hk1
  clear hk1
  go_wp2_with (first
   | (go_at_call 22; refine HSe.out.mono ?_; rintro e w1 ⟨⟨v, rfl, ho2⟩, hB1⟩; obtain ⟨p1, c1, rfl, _, _, _⟩ := own_shape ho2; have hB := bstep hB hB1 hB.size; obtain ⟨z0, z1⟩ := HZ.out _ hB; clear hB1 ho2)
   | (at_builtin; refine wpList_append_rows (V := fnV) Tryz.underlying47 infoFn rfl (by decide) (by decide) fnV_len fnV_one rfl _ _ rfl W.heap.size _ _ _ rfl (HAP.out _ hB).1 (some ⟨_, 0, none⟩) [⟨1, apex, 2, ⟨#[]⟩⟩] 1 rfl (HAP.out _ hB).2.1 (fun e => by cases e) (by have := HLn.out; simp <;> omega) (HAP.out _ hB).2.2.1 ?_; intro v9 w9 ho9 hg9; obtain ⟨p9, c9, rfl, _, _, _⟩ := own_shape ho9; have HO9 := hide' ho9; have HB9 := hide' ((HAP.out _ hB).2.2.2.grown hg9 (HAP.out _ hB).2.2.1 (fun j e => (HAP.out _ hB).1.lt j e |>.1)); clear ho9 hg9))
  refine HK.out _ _ ?_
  exact HTail.out w9 _ (show Gf W w9 _ _ by rw [lnt_zero, HA.out]; exact ⟨HO9.out, HB9.out⟩) _ _ _ _ _ _ _ _ _ _ _ _ _ _ _ _ _ _ _ _ _ _ _ _ _ _ _ _ _ _ _ _ _ _ _ _ _ _ _ _ _ _ _ _ _ _ _ _ _ _ _ _ _ _ _ _ _ _ _ _ _ _ _ _ _ _ _ _ _ _ _ _ _ _ _ _ _ _ _ _ _ _ _ _ _ _ _ _ _ _ _ _ _ _ _ _ _ _ _ _ _ _ _ _ _ _ _ _ _ _ _ _ _ _ _ _ _ _ _ _ _ _ _ _ _ _ _ _ _ _ _ _ _
 ·have HA : Hid (rlone apex M = []) := by unfold Hid; rw [HLo.out, if_neg h1]
  have h1b : ((X.length : Int) == 1) = false := by simp; omega
  clear h1 HLo
  go_enter Tryz.func24, Tryz.ntmps24
  go_upto_region 2 with fail
  rename_i K1 hk1 K2 hk2
  have HK := hide' hk1
  clear hk1
  go_wp2_with (go_at_call 22; refine HSe.out.mono ?_; rintro e w9 ⟨⟨v, rfl, ho2⟩, hB1⟩; obtain ⟨p1, c1, rfl, _, _, _⟩ := own_shape ho2; have hB := bstep hB hB1 hB.size; obtain ⟨z0, z1⟩ := HZ.out _ hB; clear hB1 ho2)
  refine HK.out _ _ ?_
  exact HTail.out w9 _ (show Gf W w9 _ _ by rw [lnt_zero, HA.out]; exact ⟨row_nil _ _ _ _, hB⟩) _ _ _ _ _ _ _ _ _ _ _ _ _ _ _ _ _ _ _ _ _ _ _ _ _ _ _ _ _ _ _ _ _ _ _ _ _ _ _ _ _ _ _ _ _ _ _ _ _ _ _ _ _ _ _ _ _ _ _ _ _ _ _ _ _ _ _ _ _ _ _ _ _ _ _ _ _ _ _ _ _ _ _ _ _ _ _ _ _ _ _ _ _ _ _ _ _ _ _ _ _ _ _ _ _ _ _ _ _ _ _ _ _ _ _ _ _ _ _ _ _ _ _ _ _ _ _ _ _ _ _ _ _
end Go.Proofs.YthabenjghhmicaaGreat
