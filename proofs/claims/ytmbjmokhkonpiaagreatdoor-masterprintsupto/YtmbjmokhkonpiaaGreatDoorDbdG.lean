import Derived.Test.YtmbjmokhkonpiaaGreatDoorKs1G
import Derived.Test.YtmbjmokhkonpiaaGreatDoorDa6G
import Derived.Test.YtmbjmokhkonpiaaGreatDoorDa9G
import Derived.Handy
/-
  Proofs: what is told of any field, by its kind's method; data.Show. (The verifier's own text.)
-/
namespace Go.Proofs.YtmbjmokhkonpiaaGreatDoor
set_option linter.unusedVariables false
set_option linter.unusedSimpArgs false
open Go.RowKit Go.Shelf Go.Proofs.YtmbjmokhkonpiaaGreatDoor.Nm

/-- what lies in memory for words of data -/
structure GD (w : World) : Prop where
  gw : GW w
  gm : Gm w
  gb : Gb w
theorem GD.below {w w' : World} (h : GD w) (hb : Below w.heap.size w w') : GD w' := ⟨h.gw.below hb, h.gm.below hb, h.gb.below hb⟩
def kSh : Kind → Nat
  | 0 => 109 | 1 => 122 | 2 => 112 | 3 => 116 | 4 => 119 | 5 => 128 | 6 => 137
  | 7 => 152 | 8 => 154 | 9 => 146 | 10 => 134 | 11 => 158 | 12 => 161 | _ + 13 => 104
theorem method_show (n : Nat) (k : Kind) (w : World) : (method (n + 1) (kT k) (kR k) "gazetteer/data.show").run Tryz.prog w = .ok (kSh k, kR k) w := by
  rcases kind_cases k with rfl | rfl | rfl | rfl | rfl | rfl | rfl | rfl | rfl | rfl | rfl | rfl | rfl | ⟨n, rfl⟩ <;> kernel_rfl
theorem enter_show (k : Kind) (args : Array Value) (w : World) : (callFunc (kSh k) args).run Tryz.prog w = .ok (.enter (kSh k) args) w := by
  rcases kind_cases k with rfl | rfl | rfl | rfl | rfl | rfl | rfl | rfl | rfl | rfl | rfl | rfl | rfl | ⟨n, rfl⟩ <;> kernel_rfl
/-- what is told of a field, by its kind's method -/
theorem showK_any (k : Kind) (b : ByteArray) (w : World) (hk : kOk k = true) (h : kindSize k b = some b.size) (hb : b.size ≤ 65535) (hG : GD w) :
    Calls Tryz.prog (kSh k) #[kR k, .string b] w (ShE w (tellK k b)) := by
  rcases kind_cases k with rfl | rfl | rfl | rfl | rfl | rfl | rfl | rfl | rfl | rfl | rfl | rfl | rfl | ⟨n, rfl⟩
  · simp only [kindSize, fixS] at h
    exact showIp4_any b w (by split at h <;> simp at h; omega) hG.gw
  · simp only [kindSize, fixS] at h
    exact showIp6_any b w (by split at h <;> simp at h; omega) hG.gw hG.gb
  · exact showDom_any b w (by unfold maxLen; omega)
  · exact showText_any b w hb (cntS_some h).1
  · obtain ⟨x, L, hL, rfl⟩ := txtS_row h
    exact showTexts_any (x :: L) w hL hb
  · exact showHex_any b w (by omega)
  · exact showBase64_any b w (by omega)
  · exact showSalt_any b w (by omega) (cntS_some h).1
  · have h1 : 1 ≤ b.size := by
      simp only [kindSize] at h
      unfold hashS at h
      split at h
      · cases h
      · exact (cntS_some h).1
    exact showHash_any b w (by omega) h1
  · simp only [kindSize, setS] at h
    cases ht : typB b with
    | none => rw [ht] at h; cases h
    | some U => exact showSet_any b U w (by omega) ht hG.gw
  · simp only [kindSize] at h
    unfold oneS at h
    split at h
    · cases h
    · simp only [Option.some.injEq] at h
      exact showOne_any b w (by omega) hG.gw
  · exact showTail_any b w hb
  · exact showUnk_any b w hb hG.gw
  · have hn : n ≤ 4 := by
      have h17 : (n + 13 : Nat) ≤ 17 := of_decide_eq_true hk
      omega
    simp only [kindSize, fixS] at h
    exact showNum_any b w n (by split at h <;> simp at h; omega) hG.gw
set_option maxRecDepth 100000 in
/-- .. of a frame that returns -/
theorem show1_idle (p : Addr) (x : Int) (w : World) (hc : w.cell? p = some (.int .i64 x)) (hz : w.frozen? p = false) (hp : p.block < w.heap.size) :
    CallsD Tryz.prog 34 #[.pointer (some p)] .returning w fun e u' w' => e = .returned (.tuple #[]) ∧ u' = .returning ∧ ∃ w2, Below w.heap.size w w2 ∧ w' = w2.setCell p (.int .i64 0) := by
  refine callsD_of_wpS Tryz.func34 rfl fun c₀ cs hu => ?_
  apply wpS_region
  simp [wpOpsS, go_sem, recoverD, hu, Tryz.ntmps34]
  refine (faultOf_none w).mono ?_
  rintro e w2 ⟨rfl, hB2⟩
  have hc2 : w2.cell? p = some (.int .i64 x) := (hB2.cell hp).trans hc
  have hz2 : w2.frozen? p = false := (below_frozen hB2 hp).trans hz
  simp [go_sem, field_code, hc2, hz2, bodyPostS, results, Tryz.results34]
  exact ⟨_, by cases c₀; simp_all, rfl, w2, hB2, rfl⟩


theorem kinds_okd {t : Int} {ks : List Kind} (h : kindsOf t = some ks) : ks.length ≤ 9 ∧ ∀ k ∈ ks, kOk k = true := by
  refine ⟨kinds_few h, ?_⟩
  unfold kindsOf at h
  by_cases hc : t = 1
  · rw [if_pos hc] at h; cases h; decide
  rw [if_neg hc] at h; clear hc
  by_cases hc : t = 2 ∨ t = 5 ∨ t = 12 ∨ t = 39
  · rw [if_pos hc] at h; cases h; decide
  rw [if_neg hc] at h; clear hc
  by_cases hc : t = 6
  · rw [if_pos hc] at h; cases h; decide
  rw [if_neg hc] at h; clear hc
  by_cases hc : t = 13
  · rw [if_pos hc] at h; cases h; decide
  rw [if_neg hc] at h; clear hc
  by_cases hc : t = 15
  · rw [if_pos hc] at h; cases h; decide
  rw [if_neg hc] at h; clear hc
  by_cases hc : t = 16
  · rw [if_pos hc] at h; cases h; decide
  rw [if_neg hc] at h; clear hc
  by_cases hc : t = 28
  · rw [if_pos hc] at h; cases h; decide
  rw [if_neg hc] at h; clear hc
  by_cases hc : t = 33
  · rw [if_pos hc] at h; cases h; decide
  rw [if_neg hc] at h; clear hc
  by_cases hc : t = 35
  · rw [if_pos hc] at h; cases h; decide
  rw [if_neg hc] at h; clear hc
  by_cases hc : t = 43
  · rw [if_pos hc] at h; cases h; decide
  rw [if_neg hc] at h; clear hc
  by_cases hc : t = 46
  · rw [if_pos hc] at h; cases h; decide
  rw [if_neg hc] at h; clear hc
  by_cases hc : t = 47
  · rw [if_pos hc] at h; cases h; decide
  rw [if_neg hc] at h; clear hc
  by_cases hc : t = 48
  · rw [if_pos hc] at h; cases h; decide
  rw [if_neg hc] at h; clear hc
  by_cases hc : t = 50
  · rw [if_pos hc] at h; cases h; decide
  rw [if_neg hc] at h; clear hc
  by_cases hc : t = 51
  · rw [if_pos hc] at h; cases h; decide
  rw [if_neg hc] at h; clear hc
  by_cases hc : t = 257
  · rw [if_pos hc] at h; cases h; decide
  rw [if_neg hc] at h; clear hc
  by_cases hc : isDT t = true
  · rw [if_pos hc] at h; cases h; decide
  rw [if_neg hc] at h; clear hc
  cases h
/-- data's fields are fields -/
structure PsOk (ps : List (Kind × ByteArray)) (d : ByteArray) : Prop where
  few : ps.length ≤ 9
  ok : ∀ p ∈ ps, kOk p.1 = true
  sz : ∀ p ∈ ps, kindSize p.1 p.2 = some p.2.size
  cat : catB ps = d
  dl : d.size ≤ 65535
theorem catB_le : ∀ (ps : List (Kind × ByteArray)), ∀ p ∈ ps, p.2.size ≤ (catB ps).size
  | q :: ps, p, hp => by
    rw [catB, ByteArray.size_append]
    rcases List.mem_cons.1 hp with rfl | h
    · omega
    · have := catB_le ps p h; omega
theorem PsOk.le {ps : List (Kind × ByteArray)} {d : ByteArray} (h : PsOk ps d) : ∀ p ∈ ps, p.2.size ≤ 65535 := fun p hp => by
  have h1 := catB_le ps p hp
  have h2 := h.dl
  rw [h.cat] at h1
  omega
theorem ps_ok {t : Int} {d : ByteArray} {ps : List (Kind × ByteArray)} (h : partsD t d = some ps) : ∃ ks, kindsOf t = some ks ∧ ps.map (·.1) = ks ∧ PsOk ps d := by
  unfold partsD at h
  cases hk : kindsOf t with
  | none => rw [hk] at h; cases h
  | some ks =>
    rw [hk] at h
    change (if _ then _ else _) = _ at h
    split at h
    · cases h
    · rename_i hl
      obtain ⟨h1, h2, h3⟩ := partsOf_facts ks d ps h
      obtain ⟨h4, h5⟩ := kinds_okd hk
      refine ⟨ks, rfl, h1, ?_, fun p hp => h5 _ ?_, h2, h3, by omega⟩
      · rw [← h1, List.length_map] at h4; exact h4
      · rw [← h1]; exact List.mem_map.2 ⟨p, hp, rfl⟩
theorem tellA_ok : ∀ (ps : List (Kind × ByteArray)), (∀ p ∈ ps, kOk p.1 = true) → (∀ p ∈ ps, kindSize p.1 p.2 = some p.2.size) → (∀ p ∈ ps, p.2.size ≤ 65535) → (∀ z ∈ tellA ps, OkW z) ∧ cstA (tellA ps) ≤ 100 * (catB ps).size + 100 * ps.length
  | [], _, _, _ => ⟨fun z hz => (by cases hz), Nat.zero_le _⟩
  | p :: ps, h1, h2, h3 => by
    obtain ⟨a1, a2⟩ := tellA_ok ps (fun q hq => h1 q (List.mem_cons_of_mem _ hq)) (fun q hq => h2 q (List.mem_cons_of_mem _ hq)) (fun q hq => h3 q (List.mem_cons_of_mem _ hq))
    obtain ⟨b1, b2⟩ := tell_ok p.1 p.2 (h1 p List.mem_cons_self) (h2 p List.mem_cons_self) (h3 p List.mem_cons_self)
    rw [tellA_cons]
    refine ⟨fun z hz => (List.mem_append.1 hz).elim (b1 z) (a1 z), ?_⟩
    rw [cstA_app, catB, ByteArray.size_append, List.length_cons]
    omega
theorem PsOk.tell {ps : List (Kind × ByteArray)} {d : ByteArray} (h : PsOk ps d) : (∀ z ∈ tellA ps, OkW z) ∧ cstA (tellA ps) ≤ 6555000 := by
  obtain ⟨h1, h2⟩ := tellA_ok ps h.ok h.sz h.le
  have h3 := h.few
  have h4 := h.dl
  rw [h.cat] at h2
  exact ⟨h1, by omega⟩
theorem tellA_take (ps : List (Kind × ByteArray)) (i : Nat) : cstA (tellA (ps.take i)) ≤ cstA (tellA ps) := by
  conv => rhs; rw [← List.take_append_drop i ps]
  unfold tellA
  rw [List.flatMap_append, cstA_app]
  omega
theorem tellA_step {ps : List (Kind × ByteArray)} {i : Nat} (h : i < ps.length) : tellA (ps.take (i + 1)) = tellA (ps.take i) ++ tellK ps[i].1 ps[i].2 := by
  rw [List.take_add_one, List.getElem?_eq_getElem h, Option.toList_some, tellA_snoc]
theorem flat_at {ps : List (Kind × ByteArray)} : ∀ {i : Nat} (h : i < ps.length), (flat ps)[i * 2]? = some (kindV ps[i].1) ∧ (flat ps)[i * 2 + 1]? = some (.string ps[i].2) := by
  induction ps with
  | nil => intro i h; exact absurd h (Nat.not_lt_zero _)
  | cons p ps ih =>
    intro i h
    cases i with
    | zero => exact ⟨rfl, rfl⟩
    | succ i =>
      have := ih (i := i) (by simpa using h)
      have e : flat (p :: ps) = kindV p.1 :: .string p.2 :: flat ps := rfl
      rw [e, show (i + 1) * 2 = i * 2 + 1 + 1 by omega]
      simpa using this
end Go.Proofs.YtmbjmokhkonpiaaGreatDoor

/-
  Proofs: data.Show. (The verifier's own text.)
-/
namespace Go.Proofs.YtmbjmokhkonpiaaGreatDoor
set_option linter.unusedVariables false
set_option linter.unusedSimpArgs false
open Go.RowKit Go.Shelf Go.Proofs.YtmbjmokhkonpiaaGreatDoor.Nm

/-- the words of the first fields -/
def wdV (ps : List (Kind × ByteArray)) (i : Nat) : List Value := (tellA (ps.take i)).map tlV
set_option maxRecDepth 100000 in
set_option maxHeartbeats 4000000 in
/-- data.Show, of data -/
theorem show_yes (t : Int) (d : ByteArray) (ps : List (Kind × ByteArray)) (w : World) (hp : partsD t d = some ps) (hok : PsOk ps d) (hG : GD w) :
    Calls Tryz.prog 14 #[.int .i64 t, .string d] w fun e w' => e = .returned (.tuple #[.string (bts (jnW (tellA ps))), .int .i64 0]) ∧ Below w.heap.size w w' := by
  have hmf : ∀ (fn : Fn) (first cap : Array Value) (w : World), (Instr.makeFunc fn first cap).run Tryz.prog w = .ok (.func fn first cap) w := fun _ _ _ _ => rfl
  have hd := hok.dl
  have HT := hide' (fun w => split_any2 t d w (by omega))
  unfold spl2 at HT
  rw [hp] at HT
  clear hp
  have bx := Boxed.new w 24 (.int .i64 0)
  have hn9 := hok.few
  obtain ⟨hTW, hTc⟩ := hok.tell
  have HLen : Hid (∀ i, (tellA (ps.take i)).length ≤ 6555000) := fun i => Nat.le_trans (jnW_len _).2 (Nat.le_trans (tellA_take ps i) hTc)
  have HSh : Hid (∀ i (hi : i < ps.length) (V : World), Below w.heap.size w V → Calls Tryz.prog (kSh ps[i].1) #[kR ps[i].1, .string ps[i].2] V (ShE V (tellK ps[i].1 ps[i].2))) := fun i hi V hV =>
    showK_any _ _ V (hok.ok _ (List.getElem_mem hi)) (hok.sz _ (List.getElem_mem hi)) (hok.le _ (List.getElem_mem hi)) (hG.below hV)
  have HSt : Hid (∀ i (hi : i < ps.length), wdV ps (i + 1) = wdV ps i ++ (tellK ps[i].1 ps[i].2).map tlV ∧ (tellA (ps.take (i + 1))).length = (tellA (ps.take i)).length + (tellK ps[i].1 ps[i].2).length) := fun i hi => by
    unfold wdV
    rw [tellA_step hi, List.map_append, List.length_append]
    exact ⟨rfl, rfl⟩
  have HJ : Hid (∀ (V : World) (p : Option Addr) (n c base : Nat), n = (tellA ps).length → V.ownsRow base 9 1 (.slice p n c) n (wdV ps ps.length) → Calls Tryz.prog 37 #[.slice p n c, .string ⟨#[32]⟩] V fun e w' => e = .returned (.string (bts (jnW (tellA ps)))) ∧ Below V.heap.size V w') := fun V p n c base hn ho => by
    subst hn
    have e : ((tellA ps).map shW).length = (tellA ps).length := List.length_map _
    have hz := (jnW_len (tellA ps)).1
    have hz2 := (jnW_len (tellA ps)).2
    have h := join_any 32 ((tellA ps).map shW) p c base V (by
      rw [e, List.map_map]
      unfold wdV at ho
      rw [List.take_length] at ho
      exact ho) (by rw [jnW_jnC]; omega) (by rw [e]; omega)
    rw [e, jnW_jnC] at h
    exact h
  go_enter_defers Tryz.func14, Tryz.ntmps14
  go_wp2_with (go_at_call 36; refine (HT.out _).mono ?_; rintro e w1 ⟨⟨pp, cc, rfl, hown⟩, hB1⟩; have bx1 := bxBelow bx hB1 (by simp); have HOp := hide' hown; have HB1 : Hid (Below w.heap.size w w1) := (((Below.refl _ w).alloc (Nat.le_refl _) _).trans (hB1.mono (by simp))); have hlt1 : w.heap.size < w1.heap.size := bx1.lt; clear hown hB1)
  go_loopw [6, 14] (fun nv iv wr => ∃ (i n : Nat) (p : Option Addr) (c : Nat), iv = .int .i64 (i : Int) ∧ nv = .slice p n c ∧ i ≤ ps.length ∧ n ≤ 6555000 ∧ Hid (n = (tellA (ps.take i)).length) ∧ Hid (wr.ownsRow w1.heap.size 9 1 (.slice p n c) n (wdV ps i)) ∧ Hid (Below w1.heap.size w1 wr)) (fun _ iv _ => ps.length - (intOf iv).toNat)
  case atStart => exact ⟨0, 0, none, 0, rfl, rfl, Nat.zero_le _, Nat.zero_le _, rfl, World.ownsRow_nil _ _ _ _, Below.refl _ _⟩
  case round =>
    obtain ⟨i, n, p, c, rfl, rfl, hi, hn, HN, HO, HB⟩ := hrel
    by_cases hlt : i < ps.length
    · obtain ⟨g, c2, hpe⟩ := owns_some HOp.out (by omega)
      simp only [Value.slice.injEq] at hpe
      obtain ⟨rfl, -, rfl⟩ := hpe
      have HS1 := hide' (HSt.out i hlt)
      have HL1 := hide' (HLen.out (i + 1))
      have HSh1 := hide' (HSh.out i hlt)
      have hc0 : wr.cell? ⟨g, i * 2, none⟩ = some (kindV ps[i].1) := by
        have h := (ownsRow_below HOp.out HB.out).cellAt (i * 2) (by omega)
        rw [h]; exact (flat_at hlt).1
      have hc1 : wr.cell? ⟨g, i * 2 + 1, none⟩ = some (.string ps[i].2) := by
        have h := (ownsRow_below HOp.out HB.out).cellAt (i * 2 + 1) (by omega)
        rw [h]; exact (flat_at hlt).2
      rw [kindV_eq] at hc0
      generalize ps[i].1 = k at *
      generalize ps[i].2 = b at *
      have pk : (i : Int) < (ps.length : Int) := by omega
      go_wp2_with fail
      have HBc := hide' (HB.out.alloc HB.out.size (.cells #[.iface (kT k) (kR k), .string b] 64))
      have HOc := hide' (HO.out.alloc (.cells #[.iface (kT k) (kR k), .string b] 64))
      generalize wr.alloc (.cells #[.iface (kT k) (kR k), .string b] 64) = wc at *
      rw [method_show]
      go_upon
      rw [enter_show, Oper.upon_enter]
      refine (HSh1.out _ (bstep HB1.out HBc.out HB1.out.size)).mono ?_
      rintro e w3 ⟨p3, c3, rfl, ho3, hB3⟩
      have HB3 := hide' (bstep HBc.out hB3 HBc.out.size)
      have HO3 := hide' (ownsRow_below HOc.out hB3)
      have HQ3 := hide' ho3
      clear hB3 ho3
      obtain ⟨m, hm⟩ : ∃ m, (tellK k b).length = m := ⟨_, rfl⟩
      rw [hm] at HQ3 HS1 ⊢
      have hmn : n + m ≤ 6555000 := by have h1 := HS1.out.2; have h2 := HL1.out; have h3 := HN.out; omega
      have hys : ∀ u ∈ (tellK k b).map tlV, u.oneCell' = true := fun u hu => by
        obtain ⟨z, _, rfl⟩ := List.mem_map.1 hu
        rfl
      have HYs := hide' hys
      clear hm hys
      go_wp2_with (at_builtin; refine append_row (w0 := w1) rfl _ _ rfl p n c (wdV ps i) p3 m c3 ((tellK k b).map tlV) _ ?_ ?_ HO3.out HQ3.out HYs.out HB3.out (by omega) ?_; rfl; rfl; intro p4 c4 w4 ho4 hB4; have HO4 := hide' ho4; have HB4 := hide' hB4; clear ho4 hB4)
      refine ⟨⟨i + 1, n + m, p4, c4, by go_num, rfl, by omega, hmn, ?_, ?_, HB4⟩, by simp [intOf]; omega⟩
      · unfold Hid; rw [HS1.out.2, HN.out]
      · rw [HS1.out.1]; exact HO4.out
    · obtain rfl : i = ps.length := by omega
      have pk : ¬ (ps.length : Int) < (ps.length : Int) := by omega
      have HJ1 := hide' (HJ.out wr p n c _ (by rw [HN.out, List.take_length]) HO.out)
      have hc1 := (bxBelow bx1 HB.out bx1.lt).cell
      have hf1 := (bxBelow bx1 HB.out bx1.lt).frozen
      have bxr := bxBelow bx1 HB.out bx1.lt
      clear HJ HN HO hi
      go_wp2_with (go_at_call 37; refine HJ1.out.mono ?_; rintro e1 w3 ⟨rfl, hB3⟩; have HB3 := hide' (bstep (bstep HB1.out HB.out HB1.out.size) hB3 (bstep HB1.out HB.out HB1.out.size).size); have bx3 := bxBelow bxr hB3 bxr.lt; have hc3 := bx3.cell; have hf3 := bx3.frozen; clear hB3)
      refine leaves_cons (f := 34) (args := #[.pointer (some ⟨w.heap.size, 0, none⟩)]) (by simp) (by simp [go_sem]) ?_
      have bx4 := bx3.set (.int .i64 0)
      refine (show1_idle ⟨w.heap.size, 0, none⟩ 0 _ bx4.cell bx4.frozen bx4.lt).mono ?_
      rintro e u' w'' ⟨rfl, rfl, w5, hB5, rfl⟩
      have bx6 := (bxBelow bx4 hB5 bx4.lt).set (.int .i64 0)
      have hc6 := bx6.cell
      have hBa : Below w.heap.size w (w3.setCell ⟨w.heap.size, 0, none⟩ (.int .i64 0)) := HB3.out.setCell (p := ⟨w.heap.size, 0, none⟩) (Nat.le_refl _) _
      have hBb : Below w.heap.size w (w5.setCell ⟨w.heap.size, 0, none⟩ (.int .i64 0)) := (hBa.trans (hB5.mono hBa.size)).setCell (p := ⟨w.heap.size, 0, none⟩) (Nat.le_refl _) _
      simp only [Leaves, settle]
      refine ⟨.tuple #[.string (bts (jnW (tellA ps))), .int .i64 0], ?_, rfl, hBb⟩
      simp [results, Tryz.results14, go_sem, hc6]
end Go.Proofs.YtmbjmokhkonpiaaGreatDoor

/-
  Kinds of fields that are known, plainly. (The verifier's own text; it stood in Dbs and Dbt.)
-/
namespace Go.Proofs.YtmbjmokhkonpiaaGreatDoor
set_option linter.unusedVariables false
set_option linter.unusedSimpArgs false
open Go.RowKit Go.Shelf Go.Proofs.YtmbjmokhkonpiaaGreatDoor.Nm

/-- kinds whose words go on to the end -/
def endR (k : Kind) : Bool := decide ((k : Nat) = 4 ∨ (k : Nat) = 5 ∨ (k : Nat) = 6 ∨ (k : Nat) = 9)
/-- kinds of fields that are known -/
def kKn (k : Kind) : Bool := decide ((k : Nat) ≤ 11 ∨ (k : Nat) = 14 ∨ (k : Nat) = 15 ∨ (k : Nat) = 17)
theorem hash_two {b : ByteArray} (h : hashS b = some b.size) : 1 < b.size := by
  unfold hashS at h
  split at h
  · cases h
  · rename_i hno
    have h4 := cntS_some h
    rcases Nat.lt_or_ge 1 b.size with h5 | h5
    · exact h5
    · exfalso
      have h6 : b.size = 1 := by omega
      unfold cntS at h
      split at h
      · cases h
      · simp only [Option.some.injEq] at h
        exact hno (.inr (by omega))
/-- whose words go on to the end stands last -/
def lastK : List Kind → Bool
  | [] => true
  | k :: ks => (!endR k || ks.isEmpty) && lastK ks
/-- the kinds of a type's fields -/
theorem kinds_known {t : Int} {ks : List Kind} (h : kindsOf t = some ks) : ((∀ k ∈ ks, kKn k = true) ∧ lastK ks = true ∧ ks ≠ []) ∨ ks = [12] := by
  unfold kindsOf at h
  by_cases hc : t = 1
  · rw [if_pos hc] at h; cases h; exact .inl ⟨by decide, by decide, by decide⟩
  rw [if_neg hc] at h; clear hc
  by_cases hc : t = 2 ∨ t = 5 ∨ t = 12 ∨ t = 39
  · rw [if_pos hc] at h; cases h; exact .inl ⟨by decide, by decide, by decide⟩
  rw [if_neg hc] at h; clear hc
  by_cases hc : t = 6
  · rw [if_pos hc] at h; cases h; exact .inl ⟨by decide, by decide, by decide⟩
  rw [if_neg hc] at h; clear hc
  by_cases hc : t = 13
  · rw [if_pos hc] at h; cases h; exact .inl ⟨by decide, by decide, by decide⟩
  rw [if_neg hc] at h; clear hc
  by_cases hc : t = 15
  · rw [if_pos hc] at h; cases h; exact .inl ⟨by decide, by decide, by decide⟩
  rw [if_neg hc] at h; clear hc
  by_cases hc : t = 16
  · rw [if_pos hc] at h; cases h; exact .inl ⟨by decide, by decide, by decide⟩
  rw [if_neg hc] at h; clear hc
  by_cases hc : t = 28
  · rw [if_pos hc] at h; cases h; exact .inl ⟨by decide, by decide, by decide⟩
  rw [if_neg hc] at h; clear hc
  by_cases hc : t = 33
  · rw [if_pos hc] at h; cases h; exact .inl ⟨by decide, by decide, by decide⟩
  rw [if_neg hc] at h; clear hc
  by_cases hc : t = 35
  · rw [if_pos hc] at h; cases h; exact .inl ⟨by decide, by decide, by decide⟩
  rw [if_neg hc] at h; clear hc
  by_cases hc : t = 43
  · rw [if_pos hc] at h; cases h; exact .inl ⟨by decide, by decide, by decide⟩
  rw [if_neg hc] at h; clear hc
  by_cases hc : t = 46
  · rw [if_pos hc] at h; cases h; exact .inl ⟨by decide, by decide, by decide⟩
  rw [if_neg hc] at h; clear hc
  by_cases hc : t = 47
  · rw [if_pos hc] at h; cases h; exact .inl ⟨by decide, by decide, by decide⟩
  rw [if_neg hc] at h; clear hc
  by_cases hc : t = 48
  · rw [if_pos hc] at h; cases h; exact .inl ⟨by decide, by decide, by decide⟩
  rw [if_neg hc] at h; clear hc
  by_cases hc : t = 50
  · rw [if_pos hc] at h; cases h; exact .inl ⟨by decide, by decide, by decide⟩
  rw [if_neg hc] at h; clear hc
  by_cases hc : t = 51
  · rw [if_pos hc] at h; cases h; exact .inl ⟨by decide, by decide, by decide⟩
  rw [if_neg hc] at h; clear hc
  by_cases hc : t = 257
  · rw [if_pos hc] at h; cases h; exact .inl ⟨by decide, by decide, by decide⟩
  rw [if_neg hc] at h; clear hc
  by_cases hc : isDT t = true
  · rw [if_pos hc] at h; cases h; exact .inr rfl
  rw [if_neg hc] at h; cases h
end Go.Proofs.YtmbjmokhkonpiaaGreatDoor
