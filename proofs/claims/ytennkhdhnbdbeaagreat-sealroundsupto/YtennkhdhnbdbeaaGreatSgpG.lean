import Derived.Test.YtennkhdhnbdbeaaGreatSgo
import Derived.Test.YtennkhdhnbdbeaaGreatSk9G
import Derived.RangeFuncBox
import Derived.Test.YtennkhdhnbdbeaaGreatSgd
import Derived.Test.YtennkhdhnbdbeaaGreatSgt
import Derived.Test.YtennkhdhnbdbeaaGreatSghG
import Derived.Test.YtennkhdhnbdbeaaGreatSk4G
/-
  SealRounds: what stands behind the signature. (The verifier's own text.)
-/
namespace Go.Proofs.YtennkhdhnbdbeaaGreat
set_option linter.unusedVariables false
set_option linter.unusedSimpArgs false
open Go.RowKit Go.Shelf Go.Sort Go.Proofs.YtennkhdhnbdbeaaGreat.Nm

/-- numbers in memory -/
def JsAt (w : World) (p : Option Addr) (js : List Int) : Prop := ∀ k, (h : k < js.length) → ∃ g off, p = some ⟨g, off, none⟩ ∧ g < w.heap.size ∧ w.cell? ⟨g, off + k, none⟩ = some (.int .i64 js[k])
theorem JsAt.below {w w' : World} {p : Option Addr} {js : List Int} (h : JsAt w p js) (hb : Below w.heap.size w w') : JsAt w' p js := fun k hk => by
  obtain ⟨g, off, h1, h2, h3⟩ := h k hk
  exact ⟨g, off, h1, Nat.lt_of_lt_of_le h2 hb.size, by rw [hb.cell (p := ⟨g, off + k, none⟩) h2]; exact h3⟩
/-- key and signature in memory -/
def Sx (w wc : World) (R S : Nat) (ky sg : Array Value) : Prop := Bx wc R ky 23 ∧ Bx wc S sg 27 ∧ Below w.heap.size w wc ∧ w.heap.size ≤ R ∧ w.heap.size ≤ S
theorem Sx.step {w wc wd : World} {R S : Nat} {ky sg : Array Value} (h : Sx w wc R S ky sg) (hB : Below wc.heap.size wc wd) : Sx w wd R S ky sg := ⟨h.1.below hB h.1.lt, h.2.1.below hB h.2.1.lt, bstep h.2.2.1 hB h.2.2.1.size, h.2.2.2⟩
/-- with a row of records -/
def Sr (w wc : World) (R S g : Nat) (ky sg : Array Value) (L : List Rn) (rest : List Value) : Prop := Sx w wc R S ky sg ∧ Rb wc g L rest ∧ R < g ∧ S < g
theorem Sr.step {w wc wd : World} {R S g : Nat} {ky sg : Array Value} {L : List Rn} {rest : List Value} (h : Sr w wc R S g ky sg L rest) (hB : Below wc.heap.size wc wd) : Sr w wd R S g ky sg L rest := ⟨h.1.step hB, Bx.below h.2.1 hB (Bx.lt h.2.1), h.2.2⟩
theorem Sr.drew {w wc : World} {R S g : Nat} {ky sg : Array Value} {L : List Rn} {rest : List Value} (h : Sr w wc R S g ky sg L rest) : Sr w wc.drew R S g ky sg L rest := ⟨⟨h.1.1, h.1.2.1, h.1.2.2.1.drew, h.1.2.2.2⟩, h.2⟩
theorem Sr.write {w wc wd : World} {R S g : Nat} {ky sg : Array Value} {L M : List Rn} {rest : List Value} (h : Sr w wc R S g ky sg L rest) (hg : wc.grownBy wd (some g)) (hr : Rb wd g M rest) : Sr w wd R S g ky sg M rest := by
  obtain ⟨⟨h1, h2, h3, h4, h5⟩, h6, h7, h8⟩ := h
  refine ⟨⟨h1.grown hg (by intro e; injection e with e; omega), h2.grown hg (by intro e; injection e with e; omega), h3.grown hg h3.size (fun q e => by injection e with e; omega), h4, h5⟩, hr, h7, h8⟩
theorem Sr.putR {w wc : World} {R S g : Nat} {ky sg : Array Value} {L : List Rn} {rest : List Value} (h : Sr w wc R S g ky sg L rest) {j : Nat} (hj : j < L.length) (r : Rn) : Sr w (setR wc g (j * 5) r) R S g ky sg (L.set j r) rest := h.write (grown_setCells g (ren5 r) (j * 5) wc) (h.2.1.put hj r)
theorem Sr.ownerS {w wc : World} {R S g : Nat} {ky sg : Array Value} {L : List Rn} {rest : List Value} (h : Sr w wc R S g ky sg L rest) {j : Nat} (hj : j < L.length) (o : ByteArray) : Sr w (wc.setCell ⟨g, j * 5, none⟩ (.string o)) R S g ky sg (L.set j ⟨o, L[j].t, L[j].c, L[j].l, L[j].d⟩) rest := h.write (grown_set wc g (j * 5) _) (h.2.1.owner hj o)
theorem Sr.ageS {w wc : World} {R S g : Nat} {ky sg : Array Value} {L : List Rn} {rest : List Value} (h : Sr w wc R S g ky sg L rest) {j : Nat} (hj : j < L.length) (l : Int) : Sr w (wc.setCell ⟨g, j * 5 + 3, none⟩ (.int .i64 l)) R S g ky sg (L.set j ⟨L[j].o, L[j].t, L[j].c, l, L[j].d⟩) rest := h.write (grown_set wc g (j * 5 + 3) _) (h.2.1.age hj l)
theorem take_turn {L : List Rn} {js : List Int} {k : Nat} (h : k < js.length) : turnL L (js.take (k + 1)) = if 1 ≤ js[k] then swR (turnL L (js.take k)) js[k].toNat else turnL L (js.take k) := by
  rw [List.take_succ_eq_append_getElem h, turnL_snoc]
set_option maxRecDepth 100000 in
set_option maxHeartbeats 8000000 in
theorem rounds_tail (fr so D PB : ByteArray) (L : List Rn) (nl : Nat) (p pt : Option Addr) (cap ct : Nat) (js : List Int) (age now sc sl f rv : Int) (b u m c s R S : Nat) (w V : World)
    (HQ : Hid (Sx w V R S #[.int .i64 f, .int .i64 (m : Int), .int .i64 (c : Int), .int .i64 (s : Int)] #[.string so, .int .i64 46, .int .i64 sc, .int .i64 sl, .string D])) (HAT : Hid (RsAt w p L)) (HNO : Hid (p = none → cap = 0)) (HNL : Hid (L.length = nl)) (hnl : 0 < nl) (hnl2 : nl ≤ 1048576) (HJS : Hid (JsAt w pt js)) (HJL : Hid (js.length ≤ 1048576)) (HOZ : Hid (∀ r ∈ L, r.o.size ≤ 255)) (HFZ : Hid (fr.size ≤ 1048576))
    (HPU : Hid (∀ W : World, Calls Tryz.prog 15 #[.agg #[.int .i64 f, .int .i64 (m : Int), .int .i64 (c : Int), .int .i64 (s : Int)]] W fun r w' => r = .returned (.string PB) ∧ Below W.heap.size W w'))
    (HVE : Hid (∀ (W : World) (p' : Option Addr) (c' : Nat), RsAt W p' ((turnL L js).map (upR age)) → Calls Tryz.prog 11 #[.slice p' nl c', .agg #[.string so, .int .i64 46, .int .i64 sc, .int .i64 sl, .string D], .string (upB fr), .string PB, .int .i64 now] W fun r w' => r = .returned (.int .i64 rv) ∧ Below W.heap.size W w'))
    (HRV : Hid (rv = if now < (b : Int) ∨ (u : Int) < now then 25 else 0)) (x0 x1 x2 x3 x11 x12 x13 x14 x15 x16 x17 x18 x19 x20 x21 x22 x25 x26 x28 x29 x30 x31 x32 x33 x34 x35 x36 x37 x38 x39 x40 x41 x42 x43 x44 x45 x46 x47 x48 x49 x50 x51 x52 x53 x54 x55 x56 x57 x58 x59 x60 x61 x62 x63 x64 x65 x66 x67 x68 x69 x70 x71 x72 x73 x74 x75 x76 x77 x78 x79 x80 x81 x82 x83 x84 x85 x86 x87 x88 x89 x90 x91 x92 x93 x94 x95 x96 x97 x98 x99 x100 x101 x102 x103 x104 x105 x106 x107 x108 x109 x110 x111 x112 x113 x114 x115 x116 x117 x118 x119 x120 x121 x122 x123 x124 x125 x126 x127 x128 x129 x130 x131 x132 x133 x134 x135 x136 x137 x138 x139 x140 x141 x142 x143 x144 x145 x146 x147 x148 x149 : Value) :
    Code.wp Tryz.prog (((Tryz.f5.body.map (tailsS 7)).getD []).getD 0 .skip) (bodyPost Tryz.prog Tryz.f5 fun r w' => r = .returned (.bool true) ∧ Below w.heap.size w w') ⟨List.toArray (x0 :: x1 :: x2 :: x3 :: (.string fr : Value) :: (.slice p nl cap : Value) :: (.slice pt js.length ct : Value) :: (.int .i64 age : Value) :: (.int .i64 (b : Int) : Value) :: (.int .i64 (u : Int) : Value) :: (.int .i64 now : Value) :: x11 :: x12 :: x13 :: x14 :: x15 :: x16 :: x17 :: x18 :: x19 :: x20 :: x21 :: x22 :: (.pointer (some ⟨R, 0, none⟩) : Value) :: (.int .i64 0 : Value) :: x25 :: x26 :: (.pointer (some ⟨S, 0, none⟩) : Value) :: x28 :: x29 :: x30 :: x31 :: x32 :: x33 :: x34 :: x35 :: x36 :: x37 :: x38 :: x39 :: x40 :: x41 :: x42 :: x43 :: x44 :: x45 :: x46 :: x47 :: x48 :: x49 :: x50 :: x51 :: x52 :: x53 :: x54 :: x55 :: x56 :: x57 :: x58 :: x59 :: x60 :: x61 :: x62 :: x63 :: x64 :: x65 :: x66 :: x67 :: x68 :: x69 :: x70 :: x71 :: x72 :: x73 :: x74 :: x75 :: x76 :: x77 :: x78 :: x79 :: x80 :: x81 :: x82 :: x83 :: x84 :: x85 :: x86 :: x87 :: x88 :: x89 :: x90 :: x91 :: x92 :: x93 :: x94 :: x95 :: x96 :: x97 :: x98 :: x99 :: x100 :: x101 :: x102 :: x103 :: x104 :: x105 :: x106 :: x107 :: x108 :: x109 :: x110 :: x111 :: x112 :: x113 :: x114 :: x115 :: x116 :: x117 :: x118 :: x119 :: x120 :: x121 :: x122 :: x123 :: x124 :: x125 :: x126 :: x127 :: x128 :: x129 :: x130 :: x131 :: x132 :: x133 :: x134 :: x135 :: x136 :: x137 :: x138 :: x139 :: x140 :: x141 :: x142 :: x143 :: x144 :: x145 :: x146 :: x147 :: x148 :: x149 :: []), []⟩ V := by
  have hn1 : (0 : Int) < (nl : Int) := by omega
  have hjl := HJL.out
  conv => arg 2; whnf
  go_upto_region 10 with fail
  rename_i KK hKK
  have HKK := hide' hKK
  clear hKK
  have hat := rsAt_below7 HAT.out HQ.out.2.2.1
  have hln := HNL.out
  go_wp2_with (at_builtin; refine wpList_append_recsM rfl _ _ rfl V.heap.size _ 0 [] rfl (World.ownsRow_nil _ _ _ _) p L cap (by rw [HNL.out]; rfl) hat HNO.out (by omega) (Nat.le_refl _) ?_; intro v5 w5 hown5 hg5; have hB5 : Below V.heap.size V w5 := (Below.refl _ _).grown hg5 (Nat.le_refl _) (fun k e => ownBlock_le (World.ownsRow_nil V V.heap.size 27 5) e); have HO5 := hide' hown5; have HB5 := hide' hB5; clear hat hown5 hg5 hB5)
  refine HKK.out _ _ ?_
  clear HKK
  obtain ⟨g, cg, rfl⟩ := owns_some HO5.out (by omega)
  have ho6 := HO5.out
  rw [List.nil_append, Nat.zero_add] at ho6
  obtain ⟨rest, hrb, hbg⟩ := rb_ownM ho6
  have R0 : Hid (Sr w w5 R S g #[.int .i64 f, .int .i64 (m : Int), .int .i64 (c : Int), .int .i64 (s : Int)] #[.string so, .int .i64 46, .int .i64 sc, .int .i64 sl, .string D] (turnL L (js.take 0)) rest) := ⟨HQ.out.step HB5.out, hrb, Nat.lt_of_lt_of_le HQ.out.1.lt hbg, Nat.lt_of_lt_of_le HQ.out.2.1.lt hbg⟩
  have HJW := HJS
  have HJ5 := hide' (HJS.out.below (HQ.out.step HB5.out).2.2.1)
  rw [Nat.zero_add, hln]
  clear HO5 HB5 ho6 hrb hbg HQ HJS
  go_wp2_with fail
  go_loopw [78] (fun iv wr => ∃ k : Nat, iv = .int .i64 (k : Int) ∧ k ≤ js.length ∧ Hid (Sr w wr R S g #[.int .i64 f, .int .i64 (m : Int), .int .i64 (c : Int), .int .i64 (s : Int)] #[.string so, .int .i64 46, .int .i64 sc, .int .i64 sl, .string D] (turnL L (js.take k)) rest)) (fun iv _ => js.length - (intOf iv).toNat)
  case atStart => exact ⟨0, rfl, Nat.zero_le _, R0⟩
  case round =>
    clear R0
    obtain ⟨k, rfl, hk, RK⟩ := hrel
    by_cases hlt : k < js.length
    · obtain ⟨gt, ot, hpt, hgt, hct⟩ := (HJW.out.below RK.out.1.2.2.1) k hlt
      subst hpt
      have HTK := hide' (take_turn (L := L) hlt)
      obtain ⟨j, hj⟩ : ∃ j, js[k] = j := ⟨_, rfl⟩
      rw [hj] at hct HTK
      clear hj
      obtain ⟨M, hM⟩ : ∃ M, turnL L (js.take k) = M := ⟨_, rfl⟩
      have hML : M.length = nl := by rw [← hM, (turnL_perm _ _).length_eq]; exact HNL.out
      rw [hM] at RK HTK
      have HML := hide' hML
      clear hM hML
      by_cases h1 : 1 ≤ j
      · obtain ⟨jn, rfl⟩ : ∃ jn : Nat, j = (jn : Int) := ⟨j.toNat, by omega⟩
        by_cases h2 : jn < nl
        · have h2i : (jn : Int) < (nl : Int) := by omega
          have hjm : jn < M.length := by rw [HML.out]; exact h2
          have h0m : 0 < M.length := by rw [HML.out]; exact hnl
          obtain ⟨a0, a1, a2, a3, a4⟩ := RK.out.2.1.cells h0m
          obtain ⟨d0, d1, d2, d3, d4⟩ := RK.out.2.1.cells hjm
          have HSW : Hid (turnL L (js.take (k + 1)) = (M.set 0 M[jn]).set jn M[0]) := by
            unfold Hid
            rw [HTK.out, if_pos h1, Int.toNat_natCast]
            unfold swR
            rw [dif_pos ⟨by omega, hjm⟩]
          obtain ⟨xx, hxx⟩ : ∃ xx, M[0] = xx := ⟨_, rfl⟩
          obtain ⟨yy, hyy⟩ : ∃ yy, M[jn] = yy := ⟨_, rfl⟩
          rw [hxx] at a0 a1 a2 a3 a4 HSW
          rw [hyy] at d0 d1 d2 d3 d4 HSW
          obtain ⟨xo, xt, xc, xl, xd⟩ := xx
          obtain ⟨yo, yt, yc, yl, yd⟩ := yy
          simp only [Nat.zero_mul, Nat.zero_add] at a0 a1 a2 a3 a4
          have q1 := RK.out.putR h0m ⟨yo, yt, yc, yl, yd⟩
          have hjm2 : jn < (M.set 0 ⟨yo, yt, yc, yl, yd⟩).length := by rw [List.length_set]; exact hjm
          have q2 := q1.putR hjm2 ⟨xo, xt, xc, xl, xd⟩
          simp only [setR, Nat.zero_mul, Nat.zero_add] at q1 q2
          have Q1 := hide' q1
          have Q2 := hide' q2
          clear q1 q2
          obtain ⟨e0, e1, e2, e3, e4⟩ := Q1.out.2.1.cells hjm2
          have fa := fun i => Bx.free RK.out.2.1 i
          have fb := fun i => Bx.free Q1.out.2.1 i
          go_wp2_with fail
          go_region_with (fail)
          all_goals
            go_wp2_with fail
            refine ⟨⟨k + 1, by go_num, by omega, ?_⟩, by simp [intOf]; omega⟩
            unfold Hid
            rw [HSW.out]
            exact Q2.out.drew
        · have h2i : ¬ (jn : Int) < (nl : Int) := by omega
          have HSW : Hid (turnL L (js.take (k + 1)) = M) := by
            unfold Hid
            rw [HTK.out, if_pos h1, Int.toNat_natCast]
            unfold swR
            rw [dif_neg (by rw [HML.out]; omega)]
          go_wp2_with fail
          refine ⟨⟨k + 1, by go_num, by omega, ?_⟩, by simp [intOf]; omega⟩
          unfold Hid
          rw [HSW.out]
          exact RK.out
      · have HSW : Hid (turnL L (js.take (k + 1)) = M) := by
          unfold Hid
          rw [HTK.out, if_neg h1]
        go_wp2_with fail
        refine ⟨⟨k + 1, by go_num, by omega, ?_⟩, by simp [intOf]; omega⟩
        unfold Hid
        rw [HSW.out]
        exact RK.out
    · obtain rfl : k = js.length := by omega
      rw [List.take_length] at RK
      obtain ⟨M, hM⟩ : ∃ M, turnL L js = M := ⟨_, rfl⟩
      have hML : M.length = nl := by rw [← hM, (turnL_perm _ _).length_eq]; exact HNL.out
      have HOM : Hid (∀ r ∈ M, r.o.size ≤ 255) := by
        intro r hr
        rw [← hM] at hr
        exact HOZ.out r ((turnL_perm _ _).mem_iff.1 hr)
      rw [hM] at RK HVE
      have HML := hide' hML
      clear hM hML hlt hk HJ5 HJW HOZ
      go_wp2_with fail
      go_loopw [105] (fun iv wr2 => ∃ k : Nat, iv = .int .i64 (k : Int) ∧ k ≤ nl ∧ Hid (Sr w wr2 R S g #[.int .i64 f, .int .i64 (m : Int), .int .i64 (c : Int), .int .i64 (s : Int)] #[.string so, .int .i64 46, .int .i64 sc, .int .i64 sl, .string D] (doneL age M k) rest)) (fun iv _ => nl - (intOf iv).toNat)
      case atStart => exact ⟨0, rfl, Nat.zero_le _, by unfold Hid; rw [doneL_none]; exact RK.out⟩
      case round =>
        clear RK
        obtain ⟨k, rfl, hk, RK⟩ := hrel
        by_cases hlt : k < nl
        · have hki : (k : Int) < (nl : Int) := by omega
          have hkm : k < M.length := by rw [HML.out]; exact hlt
          have hkd : k < (doneL age M k).length := by rw [doneL_len]; exact hkm
          have hoz := HOM.out _ (List.getElem_mem hkm)
          have HDS := hide' (fun r hr => doneL_succ (age := age) hkm r hr)
          have HDA : Hid ((doneL age M k)[k]'hkd = M[k]) := doneL_at hkm
          obtain ⟨x, hx⟩ : ∃ x, M[k] = x := ⟨_, rfl⟩
          rw [hx] at hoz HDS HDA
          clear hx
          generalize doneL age M k = N at RK HDS hkd HDA
          have HUP := hide' (fun W => upper_any x.o W (by omega))
          have hco : wr.cell? ⟨g, k * 5, none⟩ = some (.string x.o) := by
            have := (RK.out.2.1.cells hkd).1
            rw [HDA.out] at this
            exact this
          have HKD := hide' hkd
          clear hkm hoz
          by_cases hag : 0 ≤ age ∧ age ≤ 2147483647
          · have ha1 := hag.1
            have ha2 := hag.2
            have HU : Hid (upR age x = ⟨upB x.o, x.t, x.c, age, x.d⟩) := by unfold Hid upR; rw [if_pos hag]
            clear hag
            go_wp2_with (go_at_call 14; refine (HUP.out _).mono ?_; rintro r w6 ⟨rfl, hB⟩; have R6 := hide' (RK.out.step hB); clear hB hco; have R7 := hide' (R6.out.ownerS HKD.out (upB x.o)); have c0 : ∃ v, w6.cell? ⟨g, k * 5, none⟩ = some v := ⟨_, (R6.out.2.1.cells HKD.out).1⟩; obtain ⟨v0, c0⟩ := c0; have f0 := Bx.free R6.out.2.1 (k * 5); have c3 : ∃ v, (w6.setCell ⟨g, k * 5, none⟩ (.string (upB x.o))).cell? ⟨g, k * 5 + 3, none⟩ = some v := ⟨_, (R7.out.2.1.cells (j := k) (by rw [List.length_set]; exact HKD.out)).2.2.2.1⟩; obtain ⟨v3, c3⟩ := c3; have f3 := Bx.free R7.out.2.1 (k * 5 + 3))
            refine ⟨⟨k + 1, by go_num, by omega, ?_⟩, by simp [intOf]; omega⟩
            unfold Hid
            have R8 := R7.out.ageS (j := k) (by rw [List.length_set]; exact HKD.out) age
            rw [List.set_set] at R8
            rw [← HDS.out _ HU.out.symm]
            simp only [List.getElem_set_self, HDA.out] at R8
            exact R8
          · have HU : Hid (upR age x = ⟨upB x.o, x.t, x.c, x.l, x.d⟩) := by unfold Hid upR; rw [if_neg hag]
            rcases Classical.em (0 ≤ age) with ha1 | ha1
            · have ha2 : ¬ age ≤ 2147483647 := fun h => hag ⟨ha1, h⟩
              clear hag
              go_wp2_with (go_at_call 14; refine (HUP.out _).mono ?_; rintro r w6 ⟨rfl, hB⟩; have R6 := hide' (RK.out.step hB); clear hB hco; have R7 := hide' (R6.out.ownerS HKD.out (upB x.o)); have c0 : ∃ v, w6.cell? ⟨g, k * 5, none⟩ = some v := ⟨_, (R6.out.2.1.cells HKD.out).1⟩; obtain ⟨v0, c0⟩ := c0; have f0 := Bx.free R6.out.2.1 (k * 5))
              refine ⟨⟨k + 1, by go_num, by omega, ?_⟩, by simp [intOf]; omega⟩
              unfold Hid
              have R8 := R7.out
              rw [← HDS.out _ HU.out.symm]
              simp only [HDA.out] at R8
              exact R8
            · clear hag
              go_wp2_with (go_at_call 14; refine (HUP.out _).mono ?_; rintro r w6 ⟨rfl, hB⟩; have R6 := hide' (RK.out.step hB); clear hB hco; have R7 := hide' (R6.out.ownerS HKD.out (upB x.o)); have c0 : ∃ v, w6.cell? ⟨g, k * 5, none⟩ = some v := ⟨_, (R6.out.2.1.cells HKD.out).1⟩; obtain ⟨v0, c0⟩ := c0; have f0 := Bx.free R6.out.2.1 (k * 5))
              refine ⟨⟨k + 1, by go_num, by omega, ?_⟩, by simp [intOf]; omega⟩
              unfold Hid
              have R8 := R7.out
              rw [← HDS.out _ HU.out.symm]
              simp only [HDA.out] at R8
              exact R8
        · obtain rfl : k = nl := by omega
          have hall : doneL age M k = M.map (upR age) := by rw [← HML.out]; exact doneL_all _ _
          rw [hall] at RK
          clear hall hlt hk HOM HML
          go_wp2_with fail
          have Q5 := RK
          have QF : Hid (∀ V : World, Sr w V R S g #[.int .i64 f, .int .i64 (m : Int), .int .i64 (c : Int), .int .i64 (s : Int)] #[.string so, .int .i64 46, .int .i64 sc, .int .i64 sl, .string D] (M.map (upR age)) rest → V.cell? ⟨S, 0, none⟩ = some (.string so) ∧ V.cell? ⟨S, 1, none⟩ = some (.int .i64 46) ∧ V.cell? ⟨S, 2, none⟩ = some (.int .i64 sc) ∧ V.cell? ⟨S, 3, none⟩ = some (.int .i64 sl) ∧ V.cell? ⟨S, 4, none⟩ = some (.string D) ∧ V.cell? ⟨R, 0, none⟩ = some (.int .i64 f) ∧ V.cell? ⟨R, 1, none⟩ = some (.int .i64 (m : Int)) ∧ V.cell? ⟨R, 2, none⟩ = some (.int .i64 (c : Int)) ∧ V.cell? ⟨R, 3, none⟩ = some (.int .i64 (s : Int))) := fun V h => ⟨h.1.2.1.cell rfl, h.1.2.1.cell rfl, h.1.2.1.cell rfl, h.1.2.1.cell rfl, h.1.2.1.cell rfl, h.1.1.cell rfl, h.1.1.cell rfl, h.1.1.cell rfl, h.1.1.cell rfl⟩
          have HUF := hide' (fun W => upper_any fr W HFZ.out)
          obtain ⟨s0, s1, s2, s3, s4, k0, k1, k2, k3⟩ := QF.out _ Q5.out
          refine wp_region_held_drew (S := fun V => V.cell? ⟨S, 0, none⟩ = some (.string so) ∧ V.cell? ⟨S, 1, none⟩ = some (.int .i64 46) ∧ V.cell? ⟨S, 2, none⟩ = some (.int .i64 sc) ∧ V.cell? ⟨S, 3, none⟩ = some (.int .i64 sl) ∧ V.cell? ⟨S, 4, none⟩ = some (.string D) ∧ V.cell? ⟨R, 0, none⟩ = some (.int .i64 f) ∧ V.cell? ⟨R, 1, none⟩ = some (.int .i64 (m : Int)) ∧ V.cell? ⟨R, 2, none⟩ = some (.int .i64 (c : Int)) ∧ V.cell? ⟨R, 3, none⟩ = some (.int .i64 (s : Int))) (by kernel_rfl) ?_ (fun hHeld => ?_)
          · (try dsimp only); go_keep
          refine takeD 0 (some 130) (.slice (some ⟨g, 0, none⟩) k cg) rfl rfl (by kernel_rfl) (by kernel_rfl) (by kernel_rfl) (fun _ _ _ h => h) (Or.inl ⟨by rfl, ?_⟩) (by assumption) ?_
          · intro w hSw; (try dsimp only at hSw); go_simp <;> (intros; omega)
          simp only [Act.put, List.setIfInBounds_toArray, List.set_cons_zero, List.set_cons_succ]
          refine takeD 1 (some 131) (.agg #[.string so, .int .i64 46, .int .i64 sc, .int .i64 sl, .string D]) rfl rfl (by kernel_rfl) (by kernel_rfl) (by kernel_rfl) (fun _ _ _ h => h) (Or.inl ⟨by rfl, ?_⟩) (by assumption) ?_
          · intro w hSw; (try dsimp only at hSw); go_simp <;> (intros; omega)
          simp only [Act.put, List.setIfInBounds_toArray, List.set_cons_zero, List.set_cons_succ]
          refine takeD 2 (some 132) (.string fr) rfl rfl (by kernel_rfl) (by kernel_rfl) (by kernel_rfl) (fun _ _ _ h => h) (Or.inl ⟨by rfl, ?_⟩) (by assumption) ?_
          · intro w hSw; (try dsimp only at hSw); go_simp <;> (intros; omega)
          simp only [Act.put, List.setIfInBounds_toArray, List.set_cons_zero, List.set_cons_succ]
          refine takeD 4 (some 134) (.agg #[.int .i64 f, .int .i64 (m : Int), .int .i64 (c : Int), .int .i64 (s : Int)]) rfl rfl (by kernel_rfl) (by kernel_rfl) (by kernel_rfl) (fun _ _ _ h => h) (Or.inl ⟨by rfl, ?_⟩) (by assumption) ?_
          · intro w hSw; (try dsimp only at hSw); go_simp <;> (intros; omega)
          simp only [Act.put, List.setIfInBounds_toArray, List.set_cons_zero, List.set_cons_succ]
          refine takeD 6 (some 136) (.int .i64 now) rfl rfl (by kernel_rfl) (by kernel_rfl) (by kernel_rfl) (fun _ _ _ h => h) (Or.inl ⟨by rfl, ?_⟩) (by assumption) ?_
          · intro w hSw; (try dsimp only at hSw); go_simp <;> (intros; omega)
          simp only [Act.put, List.setIfInBounds_toArray, List.set_cons_zero, List.set_cons_succ]
          refine wpAnyH_ready (rs := [3]) (by kernel_rfl) (by simp) ?_
          refine AllReadyH.cons rfl (fun K hK => ?_) AllReadyH.nil
          go_simp
          go_at_call 14; refine (HUF.out _).mono ?_; rintro r w6 ⟨rfl, hB⟩; have Q6 := hide' (show Sr w w6 R S g #[.int .i64 f, .int .i64 (m : Int), .int .i64 (c : Int), .int .i64 (s : Int)] #[.string so, .int .i64 46, .int .i64 sc, .int .i64 sl, .string D] (M.map (upR age)) rest by first | exact Q5.out.step hB | exact Q5.out.drew.step hB); clear hB
          go_wp2_with fail
          refine hK.out _ _ (QF.out _ Q6.out) (fun hHeld => ?_)
          clear hK K
          try simp only [Act.put, List.setIfInBounds_toArray, List.set_cons_zero, List.set_cons_succ]
          refine wpAnyH_ready (rs := [5]) (by kernel_rfl) (by simp) ?_
          refine AllReadyH.cons rfl (fun K hK => ?_) AllReadyH.nil
          go_simp
          go_at_call 15; refine (HPU.out _).mono ?_; rintro r w7 ⟨rfl, hB⟩; have Q7 := hide' (show Sr w w7 R S g #[.int .i64 f, .int .i64 (m : Int), .int .i64 (c : Int), .int .i64 (s : Int)] #[.string so, .int .i64 46, .int .i64 sc, .int .i64 sl, .string D] (M.map (upR age)) rest by first | exact Q6.out.step hB | exact Q6.out.drew.step hB); clear hB
          go_wp2_with fail
          refine hK.out _ _ (QF.out _ Q7.out) (fun hHeld => ?_)
          clear hK K
          try simp only [Act.put, List.setIfInBounds_toArray, List.set_cons_zero, List.set_cons_succ]
          refine wpAnyH_ready (rs := [7]) (by kernel_rfl) (by simp) ?_
          refine AllReadyH.cons rfl (fun K hK => ?_) AllReadyH.nil
          go_simp
          go_at_call 11; refine (HVE.out _ _ _ (show RsAt _ _ _ by first | exact rb_rs Q7.out.2.1 | exact rb_rs Q7.out.drew.2.1)).mono ?_; rintro r w8 ⟨rfl, hB⟩; have Q8 := hide' (show Sr w w8 R S g #[.int .i64 f, .int .i64 (m : Int), .int .i64 (c : Int), .int .i64 (s : Int)] #[.string so, .int .i64 46, .int .i64 sc, .int .i64 sl, .string D] (M.map (upR age)) rest by first | exact Q7.out.step hB | exact Q7.out.drew.step hB); clear hB
          go_wp2_with fail
          refine hK.out _ _ (QF.out _ Q8.out) (fun hHeld => ?_)
          clear hK K
          try simp only [Act.put, List.setIfInBounds_toArray, List.set_cons_zero, List.set_cons_succ]
          refine takeD 8 (some 32) (.int .i64 rv) rfl rfl (by kernel_rfl) (by kernel_rfl) (by kernel_rfl) (fun _ _ _ h => h) (Or.inl ⟨by rfl, ?_⟩) (by assumption) ?_
          · intro w hSw; (try dsimp only at hSw); go_simp <;> (intros; omega)
          simp only [Act.put, List.setIfInBounds_toArray, List.set_cons_zero, List.set_cons_succ]
          refine wpAnyH_done (by kernel_rfl) ?_ _
          have hrv := HRV.out
          clear HVE HRV HUF HPU QF s0 s1 s2 s3 s4 k0 k1 k2 k3
          by_cases h1 : now < (b : Int)
          · rw [if_pos (.inl h1)] at hrv
            subst hrv
            go_wp2_with fail
            go_ret
            exact ⟨rfl, by first | exact Q8.out.1.2.2.1 | exact Q8.out.drew.1.2.2.1⟩
          · by_cases h2 : (u : Int) < now
            · rw [if_pos (.inr h2)] at hrv
              subst hrv
              go_wp2_with fail
              go_ret
              exact ⟨rfl, by first | exact Q8.out.1.2.2.1 | exact Q8.out.drew.1.2.2.1⟩
            · rw [if_neg (fun h => h.elim h1 h2)] at hrv
              subst hrv
              go_wp2_with fail
              go_ret
              exact ⟨rfl, by first | exact Q8.out.1.2.2.1 | exact Q8.out.drew.1.2.2.1⟩
end Go.Proofs.YtennkhdhnbdbeaaGreat

/-
  SealRounds: what is signed of any set, and what is verified of it turned. (The verifier's own text.)
-/
namespace Go.Proofs.YtennkhdhnbdbeaaGreat
set_option linter.unusedVariables false
set_option linter.unusedSimpArgs false
open Go.RowKit Go.Shelf Go.Sort Go.Proofs.YtennkhdhnbdbeaaGreat.Nm

theorem txt_room {L : List Rn} (h : setOK L = true) (l0 g0 u b tg t0 : Nat) (F : ByteArray) (hl : lbI (hdR L).o = (l0 : Int)) : (⟨(txL (stB t0 253 l0 g0 u b tg F) (ahB l0 g0 (hdR L).o t0) (srt (fdL L))).toArray⟩ : ByteArray).size ≤ 18 + F.size + roomL L := by
  show (txL _ _ _).toArray.size ≤ _
  rw [List.size_toArray, txt_len]
  obtain ⟨h1, h2, h3, h4⟩ := set_facts h
  obtain ⟨hz0, -, hq0⟩ := h3 _ h2
  have hN := (zon_of hz0).1
  have e1 : (stB t0 253 l0 g0 u b tg F).size = 18 + F.size := by unfold stB; simp only [ByteArray.size_append, nB_size]
  have e2 : (ahB l0 g0 (hdR L).o t0).size = (hdR L).o.size + 8 := by
    unfold ahB owB
    rw [hl, if_neg (by omega), foldB_yes hN]
    simp only [ByteArray.size_append, nB_size, lowB_size]
  have e3 : ((srt (fdL L)).map fun d => (ahB l0 g0 (hdR L).o t0).size + 2 + d.length).sum = ((fdL L).map fun d => (ahB l0 g0 (hdR L).o t0).size + 2 + d.length).sum := sum_perm ((List.mergeSort_perm _ _).map _)
  rw [e3, e1, e2]
  have e4 : ((fdL L).map fun d => (hdR L).o.size + 8 + 2 + d.length).sum ≤ roomL L := by
    unfold fdL roomL
    rw [List.map_map]
    refine sum_le _ _ L (fun r hr => ?_)
    obtain ⟨z, -, q⟩ := h3 r hr
    obtain ⟨-, -, q3⟩ := eq_low q
    have e5 : r.o.size = (hdR L).o.size := by rw [← lowB_size r.o, q3, lowB_size]
    have e6 := foldD_le (zon_of z).2.2.2.2.1
    show (hdR L).o.size + 8 + 2 + (foldD r.t r.d).data.toList.length ≤ _
    rw [Array.length_toList]
    have e7 : (foldD r.t r.d).data.size = (foldD r.t r.d).size := rfl
    omega
  omega
/-- what Sign answers, and then what Verify does -/
theorem rounds_case (L : List Rn) (p : Option Addr) (cap : Nat) (fr : ByteArray) (b u now age f : Int) (m e s : Nat) (js : List Int) (hK : KY m e s) (hf : f = 256 ∨ f = 257) (hL : L.length ≤ 1048576) (hz : ∀ r ∈ L, r.o.size ≤ maxLen ∧ r.d.size ≤ 9223372036854775807) (hfz : fr.size ≤ 1048576) (hrm : 18 + fr.size + roomL L ≤ 2097152) :
    (∃ E : Int, ¬ E = 0 ∧ ∀ W : World, RsAt W p L → Calls Tryz.prog 8 #[.agg #[.int .i64 f, .int .i64 (m : Int), .int .i64 (e : Int), .int .i64 (s : Int)], .string fr, .slice p L.length cap, .int .i64 b, .int .i64 u] W fun r w' => r = .returned (.tuple #[.agg #[.string ⟨#[]⟩, .int .i64 0, .int .i64 0, .int .i64 0, .string ⟨#[]⟩], .int .i64 E]) ∧ Below W.heap.size W w') ∨
    (0 < L.length ∧ (∀ r ∈ L, r.o.size ≤ 255) ∧ ∃ (b' u' : Nat) (so D : ByteArray) (sl : Int), b = (b' : Int) ∧ u = (u' : Int) ∧ (∀ W : World, RsAt W p L → Calls Tryz.prog 8 #[.agg #[.int .i64 f, .int .i64 (m : Int), .int .i64 (e : Int), .int .i64 (s : Int)], .string fr, .slice p L.length cap, .int .i64 b, .int .i64 u] W fun r w' => r = .returned (.tuple #[.agg #[.string so, .int .i64 46, .int .i64 1, .int .i64 sl, .string D], .int .i64 0]) ∧ Below W.heap.size W w') ∧
      ∀ (W : World) (p' : Option Addr) (c' : Nat), RsAt W p' ((turnL L js).map (upR age)) → Calls Tryz.prog 11 #[.slice p' L.length c', .agg #[.string so, .int .i64 46, .int .i64 1, .int .i64 sl, .string D], .string (upB fr), .string (pubB f m e s), .int .i64 now] W fun r w' => r = .returned (.int .i64 (if now < (b' : Int) ∨ (u' : Int) < now then 25 else 0)) ∧ Below W.heap.size W w') := by
  have hfm : fr.size ≤ maxLen := by unfold maxLen; omega
  by_cases hE : signE f m e s fr L b u = 0
  · right
    obtain ⟨hN, h4, h5, h6, h1, h3⟩ := signE_zero hE
    have hp := setOK_pos h4
    obtain ⟨x46, hx, hall, -⟩ := set_facts h4
    obtain ⟨hz0, -, -⟩ := hall _ hx
    obtain ⟨hxN, hxc, hl0, hl1, herr, ht0, ht1, -⟩ := zon_of hz0
    have h255 : ∀ r ∈ L, r.o.size ≤ 255 := fun r hr => ((isN_iff _).1 (zon_of (hall r hr).1).1).1
    have hfd : ∀ d ∈ fdL L, d.length ≤ 65535 := by
      intro d hd
      obtain ⟨r, hr, rfl⟩ := List.mem_map.1 hd
      rw [Array.length_toList]
      exact foldD_size (zon_of (hall r hr).1).2.2.2.2.1
    obtain ⟨b', rfl⟩ : ∃ b' : Nat, b = (b' : Int) := ⟨b.toNat, by omega⟩
    obtain ⟨u', rfl⟩ : ∃ u' : Nat, u = (u' : Int) := ⟨u.toNat, by omega⟩
    obtain ⟨t0, ht⟩ : ∃ t0 : Nat, (hdR L).t = (t0 : Int) := ⟨(hdR L).t.toNat, by omega⟩
    obtain ⟨g0, hg⟩ : ∃ g0 : Nat, (hdR L).l = (g0 : Int) := ⟨(hdR L).l.toNat, by omega⟩
    have hlr := lb_rng hxN
    obtain ⟨l0, hl⟩ : ∃ l0 : Nat, lbI (hdR L).o = (l0 : Int) := ⟨(lbI (hdR L).o).toNat, by omega⟩
    have hmm : 65537 ≤ m ∧ m ≤ 2147483647 ∧ s ≤ 2147483647 := by obtain ⟨a, b, -, -, -, -, h1, h2, -, -, -, h3⟩ := hK; exact ⟨h1, h2, h3⟩
    have hxz := h255 _ hx
    obtain ⟨T, hT⟩ : ∃ T, (⟨(txL (stB t0 253 l0 g0 u' b' (tagN (pubB f m e s)) (foldB fr)) (ahB l0 g0 (hdR L).o t0) (srt (fdL L))).toArray⟩ : ByteArray) = T := ⟨_, rfl⟩
    have hTz : T.size ≤ 2097152 := by
      rw [← hT]
      have h9 := txt_room h4 l0 g0 u' b' (tagN (pubB f m e s)) t0 (foldB fr) hl
      have h10 : (foldB fr).size = fr.size := by rw [foldB_yes hN, lowB_size]
      rw [h10] at h9
      omega
    have hxe : hdR L = ⟨(hdR L).o, (t0 : Int), 1, (g0 : Int), (hdR L).d⟩ := by rw [← ht, ← hg, ← hxc]
    refine ⟨hp, h255, b', u', (hdR L).o, sgD f m e s t0 l0 g0 u' b' (foldB fr) T, (g0 : Int), rfl, rfl, fun W h => ?_, fun W p' c' h => ?_⟩
    · exact sign_yes f m e s fr L p cap b' u' W (hdR L).o (hdR L).d 1 t0 g0 l0 _ (foldB fr) T hfm hL h hz hxe h1 hN (by omega) (by omega) h4 h5 h6 (by omega) (by omega) hl (by omega) rfl rfl hT hTz hfd hxz (by omega) (by omega) (by omega)
    · obtain ⟨t1, t2, t3, t4, t5, t6, t7⟩ := turned h4 js age
      have h9 := verify_round ((turnL L js).map (upR age)) p' c' (hdR L).o (upB fr) (hdR ((turnL L js).map (upR age))).o (foldB fr) T fr (g0 : Int) now f m e s t0 l0 g0 u' b' W hK hf (by rw [t2]; exact hL) h (fun r hr => by
          obtain ⟨x, hx2, rfl⟩ := List.mem_map.1 hr
          have hx3 := (turnL_perm L js).mem_iff.1 hx2
          exact ⟨by show (upB x.o).size ≤ _; rw [upB_size]; exact (hz x hx3).1, (hz x hx3).2⟩) t1 rfl (by rw [t6, ht]) t4 hN rfl (within_low t4 t7 t5 (within_fold h6))
        (eq_of_low (isN_up hN).1 (isN_fold hN).1 (by rw [low_up, foldB_yes hN, low_low])) (by rw [upB_size]; exact hfm) hxN (eq_of_low hxN t4 t5.symm) (by omega) (by omega) (by omega) (by omega) (by omega) (by omega) (by omega) (by rw [(same_low t4 t7 t5).2.2.1, hl]; exact Int.le_refl _)
        (fun d hd => by
          rw [fdL_up] at hd
          obtain ⟨r, hr, rfl⟩ := List.mem_map.1 hd
          exact hfd _ (List.mem_map.2 ⟨r, (turnL_perm L js).mem_iff.1 hr, rfl⟩))
        (by
          rw [← hT, t3]
          have ha : ahB l0 g0 (hdR ((turnL L js).map (upR age))).o t0 = ahB l0 g0 (hdR L).o t0 := by
            unfold ahB
            rw [← hl, ow_low t4 t7 t5]
          rw [ha]) hTz
      rw [t2] at h9
      exact h9
  · left
    exact ⟨_, hE, fun W h => sign_no f m e s fr L p cap b u W hfm hL h hz hE⟩
end Go.Proofs.YtennkhdhnbdbeaaGreat

/-
  SealRounds: its walk. (The verifier's own text.)
-/
namespace Go.Proofs.YtennkhdhnbdbeaaGreat
set_option linter.unusedVariables false
set_option linter.unusedSimpArgs false
open Go.RowKit Go.Shelf Go.Sort Go.Proofs.YtennkhdhnbdbeaaGreat.Nm

set_option maxRecDepth 100000 in
set_option maxHeartbeats 8000000 in
theorem rounds_no (S : Nat) (E : Int) (hE : ¬ E = 0) (w V : World) (HB : Hid (Below w.heap.size w V)) (HX : Hid (Bx V S #[.string ⟨#[]⟩, .int .i64 0, .int .i64 0, .int .i64 0, .string ⟨#[]⟩] 27)) (x0 x1 x2 x3 x4 x5 x6 x7 x8 x9 x10 x11 x12 x13 x14 x15 x16 x17 x18 x19 x20 x21 x22 x23 x25 x26 x28 x29 x30 x31 x32 x33 x34 x35 x36 x37 x38 x39 x40 x41 x42 x43 x44 x45 x46 x47 x48 x49 x50 x51 x52 x53 x54 x55 x56 x57 x58 x59 x60 x61 x62 x63 x64 x65 x66 x67 x68 x69 x70 x71 x72 x73 x74 x75 x76 x77 x78 x79 x80 x81 x82 x83 x84 x85 x86 x87 x88 x89 x90 x91 x92 x93 x94 x95 x96 x97 x98 x99 x100 x101 x102 x103 x104 x105 x106 x107 x108 x109 x110 x111 x112 x113 x114 x115 x116 x117 x118 x119 x120 x121 x122 x123 x124 x125 x126 x127 x128 x129 x130 x131 x132 x133 x134 x135 x136 x137 x138 x139 x140 x141 x142 x143 x144 x145 x146 x147 x148 x149 : Value) :
    Code.wp Tryz.prog (((Tryz.f5.body.map (tailsS 7)).getD []).getD 0 .skip) (bodyPost Tryz.prog Tryz.f5 fun r w' => r = .returned (.bool true) ∧ Below w.heap.size w w') ⟨List.toArray (x0 :: x1 :: x2 :: x3 :: x4 :: x5 :: x6 :: x7 :: x8 :: x9 :: x10 :: x11 :: x12 :: x13 :: x14 :: x15 :: x16 :: x17 :: x18 :: x19 :: x20 :: x21 :: x22 :: x23 :: (.int .i64 E : Value) :: x25 :: x26 :: (.pointer (some ⟨S, 0, none⟩) : Value) :: x28 :: x29 :: x30 :: x31 :: x32 :: x33 :: x34 :: x35 :: x36 :: x37 :: x38 :: x39 :: x40 :: x41 :: x42 :: x43 :: x44 :: x45 :: x46 :: x47 :: x48 :: x49 :: x50 :: x51 :: x52 :: x53 :: x54 :: x55 :: x56 :: x57 :: x58 :: x59 :: x60 :: x61 :: x62 :: x63 :: x64 :: x65 :: x66 :: x67 :: x68 :: x69 :: x70 :: x71 :: x72 :: x73 :: x74 :: x75 :: x76 :: x77 :: x78 :: x79 :: x80 :: x81 :: x82 :: x83 :: x84 :: x85 :: x86 :: x87 :: x88 :: x89 :: x90 :: x91 :: x92 :: x93 :: x94 :: x95 :: x96 :: x97 :: x98 :: x99 :: x100 :: x101 :: x102 :: x103 :: x104 :: x105 :: x106 :: x107 :: x108 :: x109 :: x110 :: x111 :: x112 :: x113 :: x114 :: x115 :: x116 :: x117 :: x118 :: x119 :: x120 :: x121 :: x122 :: x123 :: x124 :: x125 :: x126 :: x127 :: x128 :: x129 :: x130 :: x131 :: x132 :: x133 :: x134 :: x135 :: x136 :: x137 :: x138 :: x139 :: x140 :: x141 :: x142 :: x143 :: x144 :: x145 :: x146 :: x147 :: x148 :: x149 :: []), []⟩ V := by
  have s0 := HX.out.cell (j := 0) rfl
  have s1 := HX.out.cell (j := 1) rfl
  have s2 := HX.out.cell (j := 2) rfl
  have s3 := HX.out.cell (j := 3) rfl
  have s4 := HX.out.cell (j := 4) rfl
  conv => arg 2; whnf
  go_wp2_with fail
  go_ret
  exact ⟨rfl, HB.out⟩
theorem keyR_casesF (p q e f : Int) : (∃ m c s : Nat, keyR p q e f = .tuple #[.agg #[.int .i64 f, .int .i64 (m : Int), .int .i64 (c : Int), .int .i64 (s : Int)], .int .i64 0] ∧ KY m c s ∧ (f = 256 ∨ f = 257)) ∨ keyR p q e f = .tuple #[.agg #[.int .i64 0, .int .i64 0, .int .i64 0, .int .i64 0], .int .i64 24] := by
  by_cases h : KeyOK p q e f
  · obtain ⟨m, c, s, h1, h2⟩ := ky_of h
    exact .inl ⟨m, c, s, h1, h2, h.1⟩
  · exact .inr (keyR_no h)
set_option maxRecDepth 100000 in
theorem key_257 : KeyOK ((251 : Nat) : Int) ((263 : Nat) : Int) ((3 : Nat) : Int) 257 := (keyOKB_iff _ _ _ _).1 (by kernel_rfl)
theorem inv_257 : IsInv 3 ((251 - 1) * (263 - 1)) 43667 := by refine ⟨?_, ?_, ?_⟩ <;> decide
theorem keyR_257 : keyR 251 263 3 257 = .tuple #[.agg #[.int .i64 257, .int .i64 66013, .int .i64 3, .int .i64 43667], .int .i64 0] := by
  have h := keyR_yes key_257
  rw [invN_eq inv_257] at h
  exact h
theorem ky_257 : KY 66013 3 43667 := by
  obtain ⟨h1, h2, h3, h4⟩ := key_257
  obtain ⟨n1, n2, n3, n4, n5⟩ := pair_nat.1 h3
  exact ⟨251, 263, n4, n5, n1, rfl, by omega, by omega, by omega, by omega, inv_257, by omega⟩
set_option maxRecDepth 100000 in
set_option maxHeartbeats 8000000 in
theorem rounds_new_no (p q e f age b u now : Int) (fr : ByteArray) (L : List Rn) (pa pt : Option Addr) (ca ct : Nat) (js : List Int) (w : World) (hfz : fr.size ≤ 1048576) (hrm : 18 + fr.size + roomL L ≤ 2097152) (hL : L.length ≤ 1048576) (hz : ∀ r ∈ L, r.o.size ≤ maxLen ∧ r.d.size ≤ 9223372036854775807) (hat : RsAt w pa L) (hno : pa = none → ca = 0) (hjs : JsAt w pt js) (hjl : js.length ≤ 1048576) (m c s : Nat) (hk : keyR p q e f = .tuple #[.agg #[.int .i64 f, .int .i64 (m : Int), .int .i64 (c : Int), .int .i64 (s : Int)], .int .i64 0])
    (E : Int) (hE : ¬ E = 0) (hsg : ∀ W : World, RsAt W pa L → Calls Tryz.prog 8 #[.agg #[.int .i64 f, .int .i64 (m : Int), .int .i64 (c : Int), .int .i64 (s : Int)], .string fr, .slice pa L.length ca, .int .i64 b, .int .i64 u] W fun r w' => r = .returned (.tuple #[.agg #[.string ⟨#[]⟩, .int .i64 0, .int .i64 0, .int .i64 0, .string ⟨#[]⟩], .int .i64 E]) ∧ Below W.heap.size W w') :
    Calls Tryz.prog 5 #[.int .i64 p, .int .i64 q, .int .i64 e, .int .i64 f, .string fr, .slice pa L.length ca, .slice pt js.length ct, .int .i64 age, .int .i64 b, .int .i64 u, .int .i64 now] w fun r w' => r = .returned (.bool true) ∧ Below w.heap.size w w' := by
  · have HN0 := hide' (fun w => newKey_any 251 263 3 257 w)
    rw [keyR_257] at HN0
    have HN1 := hide' (fun w => newKey_any p q e f w)
    rw [hk] at HN1
    have HAT := hide' hat
    have HSG := hide' hsg
    have T1 : Hid True := trivial
    clear hk hat hsg hno hjs hjl hz hL hrm hfz
    go_enter Tryz.func5, Tryz.ntmps5
    go_upto_region 7 with (first
      | (go_at_call 13; have _ := T1; clear T1; refine (HN0.out _).mono ?_; rintro r w1 ⟨rfl, hB1⟩; have X1 : Hid (Bx (w1.alloc (.cells #[.int .i64 257, .int .i64 66013, .int .i64 3, .int .i64 43667] 23)) w1.heap.size #[.int .i64 257, .int .i64 66013, .int .i64 3, .int .i64 43667] 23) := World.alloc_heap_new w1 _; have y1 := X1.out.cell (j := 1) rfl; have y3 := X1.out.cell (j := 3) rfl; have B1 : Hid (Below w.heap.size w (w1.alloc (.cells #[.int .i64 257, .int .i64 66013, .int .i64 3, .int .i64 43667] 23))) := hB1.alloc hB1.size _; have S1 := hide' hB1.size; clear hB1)
      | (go_at_call 13; refine (HN1.out _).mono ?_; rintro r w2 ⟨rfl, hB2⟩; have X2 := hide' ((X1.out.below hB2 X1.out.lt).grown (World.grownBy_alloc w2 (.cells #[.int .i64 f, .int .i64 (m : Int), .int .i64 (c : Int), .int .i64 (s : Int)] 23) none) (by simp)); have B2 := hide' (Below.alloc (bstep B1.out hB2 B1.out.size) (bstep B1.out hB2 B1.out.size).size (.cells #[.int .i64 f, .int .i64 (m : Int), .int .i64 (c : Int), .int .i64 (s : Int)] 23)); have x0 := X2.out.cell (j := 0) rfl; have x1 := X2.out.cell (j := 1) rfl; have x2 := X2.out.cell (j := 2) rfl; have x3 := X2.out.cell (j := 3) rfl; have f0 := X2.out.free 0; have f1 := X2.out.free 1; have f2 := X2.out.free 2; have f3 := X2.out.free 3; clear hB2))
    rename_i KK hKK
    have HKK := hide' hKK
    clear hKK
    obtain ⟨R, hR⟩ : ∃ R, w1.heap.size = R := ⟨_, rfl⟩
    have X4 := (((X2.out.set 0 (.int .i64 f)).set 1 (.int .i64 (m : Int))).set 2 (.int .i64 (c : Int))).set 3 (.int .i64 (s : Int))
    have B4 := (((B2.out.setCell (p := ⟨w1.heap.size, 0, none⟩) S1.out (.int .i64 f)).setCell (p := ⟨w1.heap.size, 1, none⟩) S1.out (.int .i64 (m : Int))).setCell (p := ⟨w1.heap.size, 2, none⟩) S1.out (.int .i64 (c : Int))).setCell (p := ⟨w1.heap.size, 3, none⟩) S1.out (.int .i64 (s : Int))
    obtain ⟨W4, hW4⟩ : ∃ W4, ((((w2.alloc (.cells #[.int .i64 f, .int .i64 (m : Int), .int .i64 (c : Int), .int .i64 (s : Int)] 23)).setCell ⟨w1.heap.size, 0, none⟩ (.int .i64 f)).setCell ⟨w1.heap.size, 1, none⟩ (.int .i64 (m : Int))).setCell ⟨w1.heap.size, 2, none⟩ (.int .i64 (c : Int))).setCell ⟨w1.heap.size, 3, none⟩ (.int .i64 (s : Int)) = W4 := ⟨_, rfl⟩
    rw [hW4] at X4 B4
    have HX4 : Hid (Bx W4 R #[.int .i64 f, .int .i64 (m : Int), .int .i64 (c : Int), .int .i64 (s : Int)] 23) := by unfold Hid; rw [← hR]; simpa using X4
    have HB4 := hide' B4
    have HR : Hid (w.heap.size ≤ R) := by rw [← hR]; exact S1.out
    simp only [hW4]
    simp only [hR]
    clear hW4 hR X4 B4 X1 X2 x0 x1 x2 x3 f0 f1 f2 f3 B1 B2 S1 y1 y3
    have z0 := HX4.out.cell (j := 0) rfl
    have z1 := HX4.out.cell (j := 1) rfl
    have z2 := HX4.out.cell (j := 2) rfl
    have z3 := HX4.out.cell (j := 3) rfl
    go_wp2_with (go_at_call 8; refine (HSG.out _ (rsAt_below7 HAT.out HB4.out)).mono ?_; rintro r w5 ⟨rfl, hB5⟩; have HX5 := hide' (HX4.out.below hB5 HX4.out.lt); have HB5 := hide' (bstep HB4.out hB5 HB4.out.size); clear hB5)
    refine HKK.out _ _ ?_
    exact rounds_no w5.heap.size E hE w _ (show Hid (Below w.heap.size w _) from HB5.out.alloc HB5.out.size _) (show Hid (Bx _ w5.heap.size _ _) from World.alloc_heap_new w5 _) _ _ _ _ _ _ _ _ _ _ _ _ _ _ _ _ _ _ _ _ _ _ _ _ _ _ _ _ _ _ _ _ _ _ _ _ _ _ _ _ _ _ _ _ _ _ _ _ _ _ _ _ _ _ _ _ _ _ _ _ _ _ _ _ _ _ _ _ _ _ _ _ _ _ _ _ _ _ _ _ _ _ _ _ _ _ _ _ _ _ _ _ _ _ _ _ _ _ _ _ _ _ _ _ _ _ _ _ _ _ _ _ _ _ _ _ _ _ _ _ _ _ _ _ _ _ _ _ _ _ _ _ _ _ _ _ _ _ _ _ _ _ _ _ _ _ _ _
set_option maxRecDepth 100000 in
set_option maxHeartbeats 8000000 in
theorem rounds_new_yes (p q e f age b u now : Int) (fr : ByteArray) (L : List Rn) (pa pt : Option Addr) (ca ct : Nat) (js : List Int) (w : World) (hfz : fr.size ≤ 1048576) (hrm : 18 + fr.size + roomL L ≤ 2097152) (hL : L.length ≤ 1048576) (hz : ∀ r ∈ L, r.o.size ≤ maxLen ∧ r.d.size ≤ 9223372036854775807) (hat : RsAt w pa L) (hno : pa = none → ca = 0) (hjs : JsAt w pt js) (hjl : js.length ≤ 1048576) (m c s : Nat) (hk : keyR p q e f = .tuple #[.agg #[.int .i64 f, .int .i64 (m : Int), .int .i64 (c : Int), .int .i64 (s : Int)], .int .i64 0])
    (b' u' : Nat) (so D : ByteArray) (sl : Int) (hb : b = (b' : Int)) (hu : u = (u' : Int)) (hp : 0 < L.length) (h255 : ∀ r ∈ L, r.o.size ≤ 255)
    (hsg : ∀ W : World, RsAt W pa L → Calls Tryz.prog 8 #[.agg #[.int .i64 f, .int .i64 (m : Int), .int .i64 (c : Int), .int .i64 (s : Int)], .string fr, .slice pa L.length ca, .int .i64 b, .int .i64 u] W fun r w' => r = .returned (.tuple #[.agg #[.string so, .int .i64 46, .int .i64 1, .int .i64 sl, .string D], .int .i64 0]) ∧ Below W.heap.size W w')
    (hve : ∀ (W : World) (p' : Option Addr) (c' : Nat), RsAt W p' ((turnL L js).map (upR age)) → Calls Tryz.prog 11 #[.slice p' L.length c', .agg #[.string so, .int .i64 46, .int .i64 1, .int .i64 sl, .string D], .string (upB fr), .string (pubB f ((m : Nat) : Int) ((c : Nat) : Int) ((s : Nat) : Int)), .int .i64 now] W fun r w' => r = .returned (.int .i64 (if now < (b' : Int) ∨ (u' : Int) < now then 25 else 0)) ∧ Below W.heap.size W w') :
    Calls Tryz.prog 5 #[.int .i64 p, .int .i64 q, .int .i64 e, .int .i64 f, .string fr, .slice pa L.length ca, .slice pt js.length ct, .int .i64 age, .int .i64 b, .int .i64 u, .int .i64 now] w fun r w' => r = .returned (.bool true) ∧ Below w.heap.size w w' := by
  · have HN0 := hide' (fun w => newKey_any 251 263 3 257 w)
    rw [keyR_257] at HN0
    have HN1 := hide' (fun w => newKey_any p q e f w)
    rw [hk] at HN1
    have HAT := hide' hat
    have HSG := hide' hsg
    have T1 : Hid True := trivial
    subst hb
    subst hu
    have HFIN := hide' (fun (V : World) (R S : Nat) (HQ : Hid (Sx w V R S #[.int .i64 f, .int .i64 (m : Int), .int .i64 (c : Int), .int .i64 (s : Int)] #[.string so, .int .i64 46, .int .i64 1, .int .i64 sl, .string D])) => rounds_tail fr so D (pubB f ((m : Nat) : Int) ((c : Nat) : Int) ((s : Nat) : Int)) L L.length pa pt ca ct js age now 1 sl f _ b' u' m c s R S w V HQ hat hno rfl hp hL hjs hjl h255 hfz (fun W => public_any f m c s W) hve rfl)
    clear hve h255 hp
    clear hk hat hsg hno hjs hjl hz hL hrm hfz
    go_enter Tryz.func5, Tryz.ntmps5
    go_upto_region 7 with (first
      | (go_at_call 13; have _ := T1; clear T1; refine (HN0.out _).mono ?_; rintro r w1 ⟨rfl, hB1⟩; have X1 : Hid (Bx (w1.alloc (.cells #[.int .i64 257, .int .i64 66013, .int .i64 3, .int .i64 43667] 23)) w1.heap.size #[.int .i64 257, .int .i64 66013, .int .i64 3, .int .i64 43667] 23) := World.alloc_heap_new w1 _; have y1 := X1.out.cell (j := 1) rfl; have y3 := X1.out.cell (j := 3) rfl; have B1 : Hid (Below w.heap.size w (w1.alloc (.cells #[.int .i64 257, .int .i64 66013, .int .i64 3, .int .i64 43667] 23))) := hB1.alloc hB1.size _; have S1 := hide' hB1.size; clear hB1)
      | (go_at_call 13; refine (HN1.out _).mono ?_; rintro r w2 ⟨rfl, hB2⟩; have X2 := hide' ((X1.out.below hB2 X1.out.lt).grown (World.grownBy_alloc w2 (.cells #[.int .i64 f, .int .i64 (m : Int), .int .i64 (c : Int), .int .i64 (s : Int)] 23) none) (by simp)); have B2 := hide' (Below.alloc (bstep B1.out hB2 B1.out.size) (bstep B1.out hB2 B1.out.size).size (.cells #[.int .i64 f, .int .i64 (m : Int), .int .i64 (c : Int), .int .i64 (s : Int)] 23)); have x0 := X2.out.cell (j := 0) rfl; have x1 := X2.out.cell (j := 1) rfl; have x2 := X2.out.cell (j := 2) rfl; have x3 := X2.out.cell (j := 3) rfl; have f0 := X2.out.free 0; have f1 := X2.out.free 1; have f2 := X2.out.free 2; have f3 := X2.out.free 3; clear hB2))
    rename_i KK hKK
    have HKK := hide' hKK
    clear hKK
    obtain ⟨R, hR⟩ : ∃ R, w1.heap.size = R := ⟨_, rfl⟩
    have X4 := (((X2.out.set 0 (.int .i64 f)).set 1 (.int .i64 (m : Int))).set 2 (.int .i64 (c : Int))).set 3 (.int .i64 (s : Int))
    have B4 := (((B2.out.setCell (p := ⟨w1.heap.size, 0, none⟩) S1.out (.int .i64 f)).setCell (p := ⟨w1.heap.size, 1, none⟩) S1.out (.int .i64 (m : Int))).setCell (p := ⟨w1.heap.size, 2, none⟩) S1.out (.int .i64 (c : Int))).setCell (p := ⟨w1.heap.size, 3, none⟩) S1.out (.int .i64 (s : Int))
    obtain ⟨W4, hW4⟩ : ∃ W4, ((((w2.alloc (.cells #[.int .i64 f, .int .i64 (m : Int), .int .i64 (c : Int), .int .i64 (s : Int)] 23)).setCell ⟨w1.heap.size, 0, none⟩ (.int .i64 f)).setCell ⟨w1.heap.size, 1, none⟩ (.int .i64 (m : Int))).setCell ⟨w1.heap.size, 2, none⟩ (.int .i64 (c : Int))).setCell ⟨w1.heap.size, 3, none⟩ (.int .i64 (s : Int)) = W4 := ⟨_, rfl⟩
    rw [hW4] at X4 B4
    have HX4 : Hid (Bx W4 R #[.int .i64 f, .int .i64 (m : Int), .int .i64 (c : Int), .int .i64 (s : Int)] 23) := by unfold Hid; rw [← hR]; simpa using X4
    have HB4 := hide' B4
    have HR : Hid (w.heap.size ≤ R) := by rw [← hR]; exact S1.out
    simp only [hW4]
    simp only [hR]
    clear hW4 hR X4 B4 X1 X2 x0 x1 x2 x3 f0 f1 f2 f3 B1 B2 S1 y1 y3
    have z0 := HX4.out.cell (j := 0) rfl
    have z1 := HX4.out.cell (j := 1) rfl
    have z2 := HX4.out.cell (j := 2) rfl
    have z3 := HX4.out.cell (j := 3) rfl
    go_wp2_with (go_at_call 8; refine (HSG.out _ (rsAt_below7 HAT.out HB4.out)).mono ?_; rintro r w5 ⟨rfl, hB5⟩; have HX5 := hide' (HX4.out.below hB5 HX4.out.lt); have HB5 := hide' (bstep HB4.out hB5 HB4.out.size); clear hB5)
    refine HKK.out _ _ ?_
    exact HFIN.out _ R w5.heap.size (show Hid (Sx w _ R _ _ _) from ⟨HX5.out.grown (World.grownBy_alloc _ _ none) (by simp), World.alloc_heap_new w5 _, HB5.out.alloc HB5.out.size _, HR.out, HB5.out.size⟩) _ _ _ _ _ _ _ _ _ _ _ _ _ _ _ _ _ _ _ _ _ _ _ _ _ _ _ _ _ _ _ _ _ _ _ _ _ _ _ _ _ _ _ _ _ _ _ _ _ _ _ _ _ _ _ _ _ _ _ _ _ _ _ _ _ _ _ _ _ _ _ _ _ _ _ _ _ _ _ _ _ _ _ _ _ _ _ _ _ _ _ _ _ _ _ _ _ _ _ _ _ _ _ _ _ _ _ _ _ _ _ _ _ _ _ _ _ _ _ _ _ _ _ _ _ _ _ _ _ _ _ _ _ _ _ _ _ _ _ _
set_option maxRecDepth 100000 in
set_option maxHeartbeats 8000000 in
theorem rounds_old_no (p q e f age b u now : Int) (fr : ByteArray) (L : List Rn) (pa pt : Option Addr) (ca ct : Nat) (js : List Int) (w : World) (hfz : fr.size ≤ 1048576) (hrm : 18 + fr.size + roomL L ≤ 2097152) (hL : L.length ≤ 1048576) (hz : ∀ r ∈ L, r.o.size ≤ maxLen ∧ r.d.size ≤ 9223372036854775807) (hat : RsAt w pa L) (hno : pa = none → ca = 0) (hjs : JsAt w pt js) (hjl : js.length ≤ 1048576) (hk : keyR p q e f = .tuple #[.agg #[.int .i64 0, .int .i64 0, .int .i64 0, .int .i64 0], .int .i64 24])
    (E : Int) (hE : ¬ E = 0) (hsg : ∀ W : World, RsAt W pa L → Calls Tryz.prog 8 #[.agg #[.int .i64 257, .int .i64 66013, .int .i64 3, .int .i64 43667], .string fr, .slice pa L.length ca, .int .i64 b, .int .i64 u] W fun r w' => r = .returned (.tuple #[.agg #[.string ⟨#[]⟩, .int .i64 0, .int .i64 0, .int .i64 0, .string ⟨#[]⟩], .int .i64 E]) ∧ Below W.heap.size W w') :
    Calls Tryz.prog 5 #[.int .i64 p, .int .i64 q, .int .i64 e, .int .i64 f, .string fr, .slice pa L.length ca, .slice pt js.length ct, .int .i64 age, .int .i64 b, .int .i64 u, .int .i64 now] w fun r w' => r = .returned (.bool true) ∧ Below w.heap.size w w' := by
  · have HN0 := hide' (fun w => newKey_any 251 263 3 257 w)
    rw [keyR_257] at HN0
    have HN1 := hide' (fun w => newKey_any p q e f w)
    rw [hk] at HN1
    have HAT := hide' hat
    have HSG := hide' hsg
    have T1 : Hid True := trivial
    clear hk hat hsg hno hjs hjl hz hL hrm hfz
    go_enter Tryz.func5, Tryz.ntmps5
    go_upto_region 7 with (first
      | (go_at_call 13; have _ := T1; clear T1; refine (HN0.out _).mono ?_; rintro r w1 ⟨rfl, hB1⟩; have X1 : Hid (Bx (w1.alloc (.cells #[.int .i64 257, .int .i64 66013, .int .i64 3, .int .i64 43667] 23)) w1.heap.size #[.int .i64 257, .int .i64 66013, .int .i64 3, .int .i64 43667] 23) := World.alloc_heap_new w1 _; have y1 := X1.out.cell (j := 1) rfl; have y3 := X1.out.cell (j := 3) rfl; have B1 : Hid (Below w.heap.size w (w1.alloc (.cells #[.int .i64 257, .int .i64 66013, .int .i64 3, .int .i64 43667] 23))) := hB1.alloc hB1.size _; have S1 := hide' hB1.size; clear hB1)
      | (go_at_call 13; refine (HN1.out _).mono ?_; rintro r w2 ⟨rfl, hB2⟩; have X2 := hide' ((X1.out.below hB2 X1.out.lt).grown (World.grownBy_alloc w2 (.cells #[.int .i64 0, .int .i64 0, .int .i64 0, .int .i64 0] 23) none) (by simp)); have B2 := hide' (Below.alloc (bstep B1.out hB2 B1.out.size) (bstep B1.out hB2 B1.out.size).size (.cells #[.int .i64 0, .int .i64 0, .int .i64 0, .int .i64 0] 23)); have x0 := X2.out.cell (j := 0) rfl; have x1 := X2.out.cell (j := 1) rfl; have x2 := X2.out.cell (j := 2) rfl; have x3 := X2.out.cell (j := 3) rfl; have f0 := X2.out.free 0; have f1 := X2.out.free 1; have f2 := X2.out.free 2; have f3 := X2.out.free 3; clear hB2))
    rename_i KK hKK
    have HKK := hide' hKK
    clear hKK
    obtain ⟨R, hR⟩ : ∃ R, w1.heap.size = R := ⟨_, rfl⟩
    obtain ⟨W4, hW4⟩ : ∃ W4, w2.alloc (.cells #[.int .i64 0, .int .i64 0, .int .i64 0, .int .i64 0] 23) = W4 := ⟨_, rfl⟩
    have HX4 : Hid (Bx W4 R #[.int .i64 257, .int .i64 66013, .int .i64 3, .int .i64 43667] 23) := by rw [← hR, ← hW4]; exact X2.out
    have HB4 : Hid (Below w.heap.size w W4) := by rw [← hW4]; exact B2.out
    have HR : Hid (w.heap.size ≤ R) := by rw [← hR]; exact S1.out
    simp only [hW4]
    simp only [hR]
    clear hW4 hR X1 X2 x0 x1 x2 x3 f0 f1 f2 f3 B1 B2 S1 y1 y3
    have z0 := HX4.out.cell (j := 0) rfl
    have z1 := HX4.out.cell (j := 1) rfl
    have z2 := HX4.out.cell (j := 2) rfl
    have z3 := HX4.out.cell (j := 3) rfl
    go_wp2_with (go_at_call 8; refine (HSG.out _ (rsAt_below7 HAT.out HB4.out)).mono ?_; rintro r w5 ⟨rfl, hB5⟩; have HX5 := hide' (HX4.out.below hB5 HX4.out.lt); have HB5 := hide' (bstep HB4.out hB5 HB4.out.size); clear hB5)
    refine HKK.out _ _ ?_
    exact rounds_no w5.heap.size E hE w _ (show Hid (Below w.heap.size w _) from HB5.out.alloc HB5.out.size _) (show Hid (Bx _ w5.heap.size _ _) from World.alloc_heap_new w5 _) _ _ _ _ _ _ _ _ _ _ _ _ _ _ _ _ _ _ _ _ _ _ _ _ _ _ _ _ _ _ _ _ _ _ _ _ _ _ _ _ _ _ _ _ _ _ _ _ _ _ _ _ _ _ _ _ _ _ _ _ _ _ _ _ _ _ _ _ _ _ _ _ _ _ _ _ _ _ _ _ _ _ _ _ _ _ _ _ _ _ _ _ _ _ _ _ _ _ _ _ _ _ _ _ _ _ _ _ _ _ _ _ _ _ _ _ _ _ _ _ _ _ _ _ _ _ _ _ _ _ _ _ _ _ _ _ _ _ _ _ _ _ _ _ _ _ _ _
set_option maxRecDepth 100000 in
set_option maxHeartbeats 8000000 in
theorem rounds_old_yes (p q e f age b u now : Int) (fr : ByteArray) (L : List Rn) (pa pt : Option Addr) (ca ct : Nat) (js : List Int) (w : World) (hfz : fr.size ≤ 1048576) (hrm : 18 + fr.size + roomL L ≤ 2097152) (hL : L.length ≤ 1048576) (hz : ∀ r ∈ L, r.o.size ≤ maxLen ∧ r.d.size ≤ 9223372036854775807) (hat : RsAt w pa L) (hno : pa = none → ca = 0) (hjs : JsAt w pt js) (hjl : js.length ≤ 1048576) (hk : keyR p q e f = .tuple #[.agg #[.int .i64 0, .int .i64 0, .int .i64 0, .int .i64 0], .int .i64 24])
    (b' u' : Nat) (so D : ByteArray) (sl : Int) (hb : b = (b' : Int)) (hu : u = (u' : Int)) (hp : 0 < L.length) (h255 : ∀ r ∈ L, r.o.size ≤ 255)
    (hsg : ∀ W : World, RsAt W pa L → Calls Tryz.prog 8 #[.agg #[.int .i64 257, .int .i64 66013, .int .i64 3, .int .i64 43667], .string fr, .slice pa L.length ca, .int .i64 b, .int .i64 u] W fun r w' => r = .returned (.tuple #[.agg #[.string so, .int .i64 46, .int .i64 1, .int .i64 sl, .string D], .int .i64 0]) ∧ Below W.heap.size W w')
    (hve : ∀ (W : World) (p' : Option Addr) (c' : Nat), RsAt W p' ((turnL L js).map (upR age)) → Calls Tryz.prog 11 #[.slice p' L.length c', .agg #[.string so, .int .i64 46, .int .i64 1, .int .i64 sl, .string D], .string (upB fr), .string (pubB 257 ((66013 : Nat) : Int) ((3 : Nat) : Int) ((43667 : Nat) : Int)), .int .i64 now] W fun r w' => r = .returned (.int .i64 (if now < (b' : Int) ∨ (u' : Int) < now then 25 else 0)) ∧ Below W.heap.size W w') :
    Calls Tryz.prog 5 #[.int .i64 p, .int .i64 q, .int .i64 e, .int .i64 f, .string fr, .slice pa L.length ca, .slice pt js.length ct, .int .i64 age, .int .i64 b, .int .i64 u, .int .i64 now] w fun r w' => r = .returned (.bool true) ∧ Below w.heap.size w w' := by
  · have HN0 := hide' (fun w => newKey_any 251 263 3 257 w)
    rw [keyR_257] at HN0
    have HN1 := hide' (fun w => newKey_any p q e f w)
    rw [hk] at HN1
    have HAT := hide' hat
    have HSG := hide' hsg
    have T1 : Hid True := trivial
    subst hb
    subst hu
    have HFIN := hide' (fun (V : World) (R S : Nat) (HQ : Hid (Sx w V R S #[.int .i64 257, .int .i64 66013, .int .i64 3, .int .i64 43667] #[.string so, .int .i64 46, .int .i64 1, .int .i64 sl, .string D])) => rounds_tail fr so D (pubB 257 ((66013 : Nat) : Int) ((3 : Nat) : Int) ((43667 : Nat) : Int)) L L.length pa pt ca ct js age now 1 sl 257 _ b' u' 66013 3 43667 R S w V HQ hat hno rfl hp hL hjs hjl h255 hfz (fun W => public_any 257 66013 3 43667 W) hve rfl)
    clear hve h255 hp
    clear hk hat hsg hno hjs hjl hz hL hrm hfz
    go_enter Tryz.func5, Tryz.ntmps5
    go_upto_region 7 with (first
      | (go_at_call 13; have _ := T1; clear T1; refine (HN0.out _).mono ?_; rintro r w1 ⟨rfl, hB1⟩; have X1 : Hid (Bx (w1.alloc (.cells #[.int .i64 257, .int .i64 66013, .int .i64 3, .int .i64 43667] 23)) w1.heap.size #[.int .i64 257, .int .i64 66013, .int .i64 3, .int .i64 43667] 23) := World.alloc_heap_new w1 _; have y1 := X1.out.cell (j := 1) rfl; have y3 := X1.out.cell (j := 3) rfl; have B1 : Hid (Below w.heap.size w (w1.alloc (.cells #[.int .i64 257, .int .i64 66013, .int .i64 3, .int .i64 43667] 23))) := hB1.alloc hB1.size _; have S1 := hide' hB1.size; clear hB1)
      | (go_at_call 13; refine (HN1.out _).mono ?_; rintro r w2 ⟨rfl, hB2⟩; have X2 := hide' ((X1.out.below hB2 X1.out.lt).grown (World.grownBy_alloc w2 (.cells #[.int .i64 0, .int .i64 0, .int .i64 0, .int .i64 0] 23) none) (by simp)); have B2 := hide' (Below.alloc (bstep B1.out hB2 B1.out.size) (bstep B1.out hB2 B1.out.size).size (.cells #[.int .i64 0, .int .i64 0, .int .i64 0, .int .i64 0] 23)); have x0 := X2.out.cell (j := 0) rfl; have x1 := X2.out.cell (j := 1) rfl; have x2 := X2.out.cell (j := 2) rfl; have x3 := X2.out.cell (j := 3) rfl; have f0 := X2.out.free 0; have f1 := X2.out.free 1; have f2 := X2.out.free 2; have f3 := X2.out.free 3; clear hB2))
    rename_i KK hKK
    have HKK := hide' hKK
    clear hKK
    obtain ⟨R, hR⟩ : ∃ R, w1.heap.size = R := ⟨_, rfl⟩
    obtain ⟨W4, hW4⟩ : ∃ W4, w2.alloc (.cells #[.int .i64 0, .int .i64 0, .int .i64 0, .int .i64 0] 23) = W4 := ⟨_, rfl⟩
    have HX4 : Hid (Bx W4 R #[.int .i64 257, .int .i64 66013, .int .i64 3, .int .i64 43667] 23) := by rw [← hR, ← hW4]; exact X2.out
    have HB4 : Hid (Below w.heap.size w W4) := by rw [← hW4]; exact B2.out
    have HR : Hid (w.heap.size ≤ R) := by rw [← hR]; exact S1.out
    simp only [hW4]
    simp only [hR]
    clear hW4 hR X1 X2 x0 x1 x2 x3 f0 f1 f2 f3 B1 B2 S1 y1 y3
    have z0 := HX4.out.cell (j := 0) rfl
    have z1 := HX4.out.cell (j := 1) rfl
    have z2 := HX4.out.cell (j := 2) rfl
    have z3 := HX4.out.cell (j := 3) rfl
    go_wp2_with (go_at_call 8; refine (HSG.out _ (rsAt_below7 HAT.out HB4.out)).mono ?_; rintro r w5 ⟨rfl, hB5⟩; have HX5 := hide' (HX4.out.below hB5 HX4.out.lt); have HB5 := hide' (bstep HB4.out hB5 HB4.out.size); clear hB5)
    refine HKK.out _ _ ?_
    exact HFIN.out _ R w5.heap.size (show Hid (Sx w _ R _ _ _) from ⟨HX5.out.grown (World.grownBy_alloc _ _ none) (by simp), World.alloc_heap_new w5 _, HB5.out.alloc HB5.out.size _, HR.out, HB5.out.size⟩) _ _ _ _ _ _ _ _ _ _ _ _ _ _ _ _ _ _ _ _ _ _ _ _ _ _ _ _ _ _ _ _ _ _ _ _ _ _ _ _ _ _ _ _ _ _ _ _ _ _ _ _ _ _ _ _ _ _ _ _ _ _ _ _ _ _ _ _ _ _ _ _ _ _ _ _ _ _ _ _ _ _ _ _ _ _ _ _ _ _ _ _ _ _ _ _ _ _ _ _ _ _ _ _ _ _ _ _ _ _ _ _ _ _ _ _ _ _ _ _ _ _ _ _ _ _ _ _ _ _ _ _ _ _ _ _ _ _ _ _
set_option maxRecDepth 100000 in
set_option maxHeartbeats 8000000 in
theorem rounds_any (p q e f age b u now : Int) (fr : ByteArray) (L : List Rn) (pa pt : Option Addr) (ca ct : Nat) (js : List Int) (w : World) (hfz : fr.size ≤ 1048576) (hrm : 18 + fr.size + roomL L ≤ 2097152) (hL : L.length ≤ 1048576) (hz : ∀ r ∈ L, r.o.size ≤ maxLen ∧ r.d.size ≤ 9223372036854775807) (hat : RsAt w pa L) (hno : pa = none → ca = 0) (hjs : JsAt w pt js) (hjl : js.length ≤ 1048576) :
    Calls Tryz.prog 5 #[.int .i64 p, .int .i64 q, .int .i64 e, .int .i64 f, .string fr, .slice pa L.length ca, .slice pt js.length ct, .int .i64 age, .int .i64 b, .int .i64 u, .int .i64 now] w fun r w' => r = .returned (.bool true) ∧ Below w.heap.size w w' := by
  rcases keyR_casesF p q e f with ⟨m, c, s, hk, hK, hf⟩ | hk
  · rcases rounds_case L pa ca fr b u now age f m c s js hK hf hL hz hfz hrm with ⟨E, hE, hsg⟩ | ⟨hp, h255, b', u', so, D, sl, hb, hu, hsg, hve⟩
    · exact rounds_new_no p q e f age b u now fr L pa pt ca ct js w hfz hrm hL hz hat hno hjs hjl m c s hk E hE hsg
    · exact rounds_new_yes p q e f age b u now fr L pa pt ca ct js w hfz hrm hL hz hat hno hjs hjl m c s hk b' u' so D sl hb hu hp h255 hsg hve
  · rcases rounds_case L pa ca fr b u now age 257 66013 3 43667 js ky_257 (.inr rfl) hL hz hfz hrm with ⟨E, hE, hsg⟩ | ⟨hp, h255, b', u', so, D, sl, hb, hu, hsg, hve⟩
    · exact rounds_old_no p q e f age b u now fr L pa pt ca ct js w hfz hrm hL hz hat hno hjs hjl hk E hE hsg
    · exact rounds_old_yes p q e f age b u now fr L pa pt ca ct js w hfz hrm hL hz hat hno hjs hjl hk b' u' so D sl hb hu hp h255 hsg hve
end Go.Proofs.YtennkhdhnbdbeaaGreat
