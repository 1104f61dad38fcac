import Derived.Test.YtndkjnehkfleaaaKs2
namespace Go.Proofs.Ytndkjnehkfleaaa
set_option linter.unusedVariables false
open Go.RowKit Go.Shelf Go.Proofs.Ytndkjnehkfleaaa.Nm

set_option maxRecDepth 100000 in
/-- data.Check's deferred function, of a frame that panics -/
theorem check1_panicking (p : Addr) (x : Int) (code at_ : Nat) (older : List PanicEntry) (w : World) (hc : w.cell? p = some (.int .i64 x)) (hz : w.frozen? p = false) (hp : p.block < w.heap.size) :
    CallsD Try.prog 15 #[.pointer (some p)] (.panicking ({ v := .iface 40 (.agg #[.int .i64 (code : Int), .int .i64 (at_ : Int)]), recovered := false } :: older)) w fun e u' w' =>
      e = .returned (.tuple #[]) ∧ u' = .panicking ({ v := .iface 40 (.agg #[.int .i64 (code : Int), .int .i64 (at_ : Int)]), recovered := true } :: older) ∧ ∃ w2, Below w.heap.size w w2 ∧ w' = w2.setCell p (.int .i64 (code : Int)) := by
  refine callsD_of_wpS Try.func15 rfl fun c₀ cs hu => ?_
  apply wpS_region
  simp [wpOpsS, go_sem, recoverD, hu, Try.ntmps15]
  refine (faultOf_some code at_ w).mono ?_
  rintro e w2 ⟨rfl, hB2⟩
  have hc2 : w2.cell? p = some (.int .i64 x) := (hB2.cell hp).trans hc
  have hz2 : w2.frozen? p = false := (below_frozen hB2 hp).trans hz
  simp [go_sem, field_code, hc2, hz2, bodyPostS, results, Try.results15]
  exact ⟨w2, hB2, rfl⟩

set_option maxRecDepth 100000 in
/-- .. of a frame that returns -/
theorem check1_idle (p : Addr) (x : Int) (w : World) (hc : w.cell? p = some (.int .i64 x)) (hz : w.frozen? p = false) (hp : p.block < w.heap.size) :
    CallsD Try.prog 15 #[.pointer (some p)] .returning w fun e u' w' => e = .returned (.tuple #[]) ∧ u' = .returning ∧ ∃ w2, Below w.heap.size w w2 ∧ w' = w2.setCell p (.int .i64 0) := by
  refine callsD_of_wpS Try.func15 rfl fun c₀ cs hu => ?_
  apply wpS_region
  simp [wpOpsS, go_sem, recoverD, hu, Try.ntmps15]
  refine (faultOf_none w).mono ?_
  rintro e w2 ⟨rfl, hB2⟩
  have hc2 : w2.cell? p = some (.int .i64 x) := (hB2.cell hp).trans hc
  have hz2 : w2.frozen? p = false := (below_frozen hB2 hp).trans hz
  simp [go_sem, field_code, hc2, hz2, bodyPostS, results, Try.results15]
  exact ⟨_, by cases c₀; simp_all, rfl, w2, hB2, rfl⟩

set_option maxRecDepth 100000 in
set_option maxHeartbeats 1000000 in
/-- data.Check -/
theorem dataCheck_any (t : Int) (d : ByteArray) (w : World) (hd : d.size ≤ 9223372036854775807) :
    Calls Try.prog 7 #[.int .i64 t, .string d] w fun e w' => e = .returned (.int .i64 (errD t d : Int)) ∧ Below w.heap.size w w' := by
  have hmf : ∀ (fn : Fn) (first cap : Array Value) (w : World), (Instr.makeFunc fn first cap).run Try.prog w = .ok (.func fn first cap) w := fun _ _ _ _ => rfl
  have HT := hide' (fun w => split_any2 t d w hd)
  have bx := Boxed.new w 25 (.int .i64 0)
  cases hp : partsD t d with
  | some ps =>
    have HE : Hid (errD t d = 0) := by
      unfold Hid errD
      cases hk : kindsOf t with
      | none => unfold partsD at hp; rw [hk] at hp; cases hp
      | some ks => rw [hp]
    unfold spl2 at HT
    rw [hp] at HT
    clear hp
    go_enter_defers Try.func7, Try.ntmps7
    go_wp2_with (go_at_call 11; refine (HT.out _).mono ?_; rintro e w1 ⟨⟨p, c, rfl, hown⟩, hB1⟩; have bx1 := bxBelow bx hB1 (by simp); have hc1 := bx1.cell; have hf1 := bx1.frozen)
    refine leaves_cons (f := 15) (args := #[.pointer (some ⟨w.heap.size, 0, none⟩)]) (by simp) (by simp [go_sem]) ?_
    have bx2 := bx1.set (.int .i64 0)
    refine (check1_idle ⟨w.heap.size, 0, none⟩ 0 _ bx2.cell bx2.frozen bx2.lt).mono ?_
    rintro e u' w'' ⟨rfl, rfl, w2, hB2, rfl⟩
    have bx3 := (bxBelow bx2 hB2 bx2.lt).set (.int .i64 0)
    have hc3 := bx3.cell
    rw [World.size_alloc] at hB1
    have hBa : Below w.heap.size w (w1.setCell ⟨w.heap.size, 0, none⟩ (.int .i64 0)) := (((Below.refl _ w).alloc (Nat.le_refl _) _).trans (hB1.mono (by omega))).setCell (p := ⟨w.heap.size, 0, none⟩) (Nat.le_refl _) _
    have hBb : Below w.heap.size w (w2.setCell ⟨w.heap.size, 0, none⟩ (.int .i64 0)) := (hBa.trans (hB2.mono hBa.size)).setCell (p := ⟨w.heap.size, 0, none⟩) (Nat.le_refl _) _
    simp only [Leaves, settle]
    refine ⟨.int .i64 0, ?_, by rw [HE.out]; rfl, hBb⟩
    simp [results, Try.results7, go_sem, hc3]
  | none =>
    unfold spl2 at HT
    rw [hp] at HT
    clear hp
    go_enter_defers Try.func7, Try.ntmps7
    go_wp2_with (go_at_call 11; refine (HT.out _).mono ?_; rintro e w1 ⟨rfl, hB1⟩; have bx1 := bxBelow bx hB1 (by simp); have hc1 := bx1.cell; have hf1 := bx1.frozen)
    simp only [bodyPostD, flt]
    refine leaves_cons (f := 15) (args := #[.pointer (some ⟨w.heap.size, 0, none⟩)]) (by simp) (by simp [go_sem]) ?_
    refine (check1_panicking ⟨w.heap.size, 0, none⟩ 0 (errD t d) 0 [] _ bx1.cell bx1.frozen bx1.lt).mono ?_
    rintro e u' w'' ⟨rfl, rfl, w2, hB2, rfl⟩
    have bx3 := (bxBelow bx1 hB2 bx1.lt).set (.int .i64 (errD t d : Int))
    have hc3 := bx3.cell
    rw [World.size_alloc] at hB1
    have hBa : Below w.heap.size w w1 := ((Below.refl _ w).alloc (Nat.le_refl _) _).trans (hB1.mono (by omega))
    have hBb : Below w.heap.size w (w2.setCell ⟨w.heap.size, 0, none⟩ (.int .i64 (errD t d : Int))) := (hBa.trans (hB2.mono hBa.size)).setCell (p := ⟨w.heap.size, 0, none⟩) (Nat.le_refl _) _
    simp only [settle]
    refine ⟨.int .i64 (errD t d : Int), ?_, rfl, hBb⟩
    simp [results, Try.results7, go_sem, hc3]
end Go.Proofs.Ytndkjnehkfleaaa

namespace Go.Proofs.Ytndkjnehkfleaaa
set_option linter.unusedVariables false
open Go.RowKit Go.Shelf Go.Proofs.Ytndkjnehkfleaaa.Nm

/-- the names among fields -/
def namesOf (ps : List (Kind × ByteArray)) : List ByteArray := ps.filterMap fun p => if p.1 = .dom then some p.2 else none
def namesD (t : Int) (d : ByteArray) : List ByteArray := match partsD t d with | none => [] | some ps => namesOf ps
theorem namesOf_len (ps : List (Kind × ByteArray)) : (namesOf ps).length ≤ ps.length := List.length_filterMap_le _ _
theorem namesOf_snoc (ps : List (Kind × ByteArray)) (q : Kind × ByteArray) : namesOf (ps ++ [q]) = namesOf ps ++ if q.1 = .dom then [q.2] else [] := by
  unfold namesOf; rw [List.filterMap_append]; congr 1
  by_cases h : q.1 = .dom <;> simp [h]
theorem flat_get : ∀ (ps : List (Kind × ByteArray)) (i : Nat) (h : i < ps.length), (flat ps)[i * 2]? = some (kindV ps[i].1) ∧ (flat ps)[i * 2 + 1]? = some (.string ps[i].2)
  | [], i, h => by simp at h
  | p :: ps, 0, h => by simp [flat]
  | p :: ps, i + 1, h => by
    have e : flat (p :: ps) = [kindV p.1, .string p.2] ++ flat ps := by simp [flat]
    have := flat_get ps i (by simpa using h)
    rw [e, show (i + 1) * 2 = i * 2 + 2 by omega, show i * 2 + 2 + 1 = (i * 2 + 1) + 2 by omega]
    simpa using this
theorem parts_few {t : Int} {d : ByteArray} {ps : List (Kind × ByteArray)} (h : partsD t d = some ps) : ps.length ≤ 9 ∧ d.size ≤ 65535 := by
  unfold partsD at h
  cases hk : kindsOf t with
  | none => rw [hk] at h; cases h
  | some ks =>
    rw [hk] at h
    change (if _ then _ else _) = _ at h
    split at h
    · cases h
    · have e : ∀ (ks : List Kind) (d : ByteArray) (ps : List (Kind × ByteArray)), partsOf ks d = some ps → ps.length = ks.length := by
        intro ks
        induction ks with
        | nil => intro d ps h; unfold partsOf at h; split at h <;> simp at h; subst h; rfl
        | cons k ks ih =>
          intro d ps h
          unfold partsOf at h
          cases hs : kindSize k d with
          | none => rw [hs] at h; cases h
          | some n =>
            rw [hs] at h
            simp only [Option.map_eq_some_iff] at h
            obtain ⟨q, hq, rfl⟩ := h
            simp [ih _ _ hq]
      have := e ks d ps h
      have := kinds_few hk
      omega

set_option maxRecDepth 100000 in
set_option maxHeartbeats 1000000 in
/-- data.Names -/
theorem names_any (t : Int) (d : ByteArray) (w : World) (hd : d.size ≤ 9223372036854775807) :
    Calls Try.prog 4 #[.int .i64 t, .string d] w fun e w' => ∃ p c, e = .returned (.slice p (namesD t d).length c) ∧ w'.ownsRow w.heap.size 9 1 (.slice p (namesD t d).length c) (namesD t d).length ((namesD t d).map Value.string) ∧ Below w.heap.size w w' := by
  obtain ⟨i0, hi, hz0, hz1, hz2⟩ := info_parts Try.infoStr
  have HC := hide' (fun w => dataCheck_any t d w hd)
  have HT := hide' (fun w => split_any2 t d w hd)
  cases hp : partsD t d with
  | none =>
    have HN : Hid (namesD t d = []) := by unfold Hid namesD; rw [hp]
    have he : errD t d = 6 ∨ errD t d = 7 := by
      unfold errD
      cases hk : kindsOf t with
      | none => exact .inl rfl
      | some ks => rw [hp]; exact .inr rfl
    clear hp
    rcases he with he | he
    all_goals
      rw [he] at HC
      clear he
      go_enter Try.func4, Try.ntmps4
      go_wp2_with (go_at_call 7; refine (HC.out _).mono ?_; rintro e w1 ⟨rfl, hB1⟩)
      go_ret
      rw [HN.out]
      exact ⟨none, 0, rfl, World.ownsRow_nil _ _ _ _, hB1⟩
  | some ps =>
    obtain ⟨hps, hds⟩ := parts_few hp
    have HN : Hid (namesD t d = namesOf ps) := by unfold Hid namesD; rw [hp]
    have he : errD t d = 0 := by
      unfold errD
      cases hk : kindsOf t with
      | none => unfold partsD at hp; rw [hk] at hp; cases hp
      | some ks => rw [hp]
    rw [he] at HC
    unfold spl2 at HT
    rw [hp] at HT
    clear hp he
    go_enter Try.func4, Try.ntmps4
    go_wp2_with (first
      | (go_at_call 7; refine (HC.out _).mono ?_; rintro e w1 ⟨rfl, hB1⟩)
      | (go_at_call 11; refine (HT.out _).mono ?_; rintro e w2 ⟨⟨p, c, rfl, hown⟩, hB2⟩))
    have hBw2 : Below w.heap.size w w2 := bstep hB1 hB2 hB1.size
    go_loopw [5, 16] (fun lv iv wr => ∃ i : Nat, iv = .int .i64 i ∧ i ≤ ps.length ∧ wr.ownsRow w2.heap.size 9 1 lv (namesOf (ps.take i)).length ((namesOf (ps.take i)).map Value.string) ∧ Below w2.heap.size w2 wr) (fun _ iv _ => ps.length - (intOf iv).toNat)
    case atStart => exact ⟨0, rfl, Nat.zero_le _, by simpa [namesOf] using World.ownsRow_nil _ _ _ _, Below.refl _ _⟩
    case round =>
      obtain ⟨i, rfl, hi2, hownl, hBr⟩ := hrel
      by_cases hlt : i < ps.length
      · obtain ⟨g, rfl, hg2⟩ : ∃ g, p = some ⟨g, 0, none⟩ ∧ g < w2.heap.size := by
          obtain ⟨_, (⟨h1, h2⟩ | ⟨g, cap, cur, h1, hb, hg, hn, hcap, _⟩)⟩ := hown
          · omega
          · injection h1 with h1; exact ⟨g, h1, (Array.getElem?_eq_some_iff.1 hg).1⟩
        obtain ⟨hf1, hf2⟩ := flat_get ps i hlt
        have hc0 : wr.cell? ⟨g, i * 2, none⟩ = some (kindV ps[i].1) := by
          rw [hBr.cell hg2, hown.cellAt (i * 2) (by omega)]; exact hf1
        have hc1 : wr.cell? ⟨g, i * 2 + 1, none⟩ = some (.string ps[i].2) := by
          rw [hBr.cell hg2, hown.cellAt (i * 2 + 1) (by omega)]; exact hf2
        have hnl := namesOf_len (ps.take i)
        rw [List.length_take] at hnl
        have HTK : Hid (namesOf (ps.take (i + 1)) = namesOf (ps.take i) ++ if ps[i].1 = .dom then [ps[i].2] else []) := by
          unfold Hid; rw [List.take_succ_eq_append_getElem hlt, namesOf_snoc]
        generalize ps[i] = q at *
        obtain ⟨k, b⟩ := q
        simp only at hc0 hc1 HTK
        have HIN := hide' (fun w => partIsName_any k b w)
        rw [kindV_eq] at hc0 HIN
        by_cases hkd : k = .dom
        · rw [if_pos hkd] at HTK
          rw [decide_eq_true hkd] at HIN
          clear hkd
          obtain ⟨L, hL⟩ : ∃ L, namesOf (ps.take i) = L := ⟨_, rfl⟩
          rw [hL] at hownl hnl HTK
          clear hL
          have hLl : L.length ≤ 9 := by omega
          clear hnl
          go_wp2_with (first
            | (go_at_call 12; refine (HIN.out _).mono ?_; rintro e w3 ⟨rfl, hB3⟩; have hcb : w3.cell? ⟨wr.heap.size, 1, none⟩ = some (.string b) := (hB3.cell (by simp)).trans (by simp); have hown3 := ownsRow_below (hownl.alloc (.cells #[.iface (kT k) (kR k), .string b] 34)) hB3; have hBw3 : Below w2.heap.size w2 w3 := bstep (hBr.alloc hBr.size _) hB3 (by have := hBr.size; simp; omega))
            | (at_builtin; refine wpList_append_own _ rfl _ _ 22 rfl w2.heap.size 9 i0 (.string .empty) 1 16 Try.underlying22 hi hz0 hz1 hz2 rfl (by decide) _ _ _ rfl (hown3.alloc _) ⟨w3.heap.size, 0, none⟩ 1 1 [.string b] rfl rfl (cell_one_new _ _ _) (by simp [Value.oneCell']) (by unfold maxLen; omega) (by omega) (by have := hBw3.size; simp; omega) ?_; intro v4 w4 hown4 hgrow4 _))
          refine ⟨⟨i + 1, by go_num, hlt, ?_, below_app hBw3 (Nat.le_refl _) hown3 hgrow4⟩, by simp [intOf]; omega⟩
          rw [HTK.out, List.length_append, List.map_append]; exact hown4
        · rw [if_neg hkd, List.append_nil] at HTK
          rw [decide_eq_false hkd] at HIN
          clear hkd hnl
          go_wp2_with (go_at_call 12; refine (HIN.out _).mono ?_; rintro e w3 ⟨rfl, hB3⟩)
          refine ⟨⟨i + 1, by go_num, hlt, ?_, bstep (hBr.alloc hBr.size _) hB3 (by have := hBr.size; simp; omega)⟩, by simp [intOf]; omega⟩
          rw [HTK.out]; exact ownsRow_below (hownl.alloc _) hB3
      · obtain rfl : i = ps.length := by omega
        rw [List.take_length] at hownl
        obtain ⟨L, hL⟩ : ∃ L, namesOf ps = L := ⟨_, rfl⟩
        rw [hL] at hownl HN
        obtain ⟨pA, cA, rfl, hbc, hbc9, hbsh⟩ := owns_shape hownl
        clear hbsh hL
        go_wp2
        go_ret
        rw [HN.out]
        exact ⟨pA, cA, rfl, own_mono hownl hBw2.size, bstep hBw2 hBr hBw2.size⟩
end Go.Proofs.Ytndkjnehkfleaaa
