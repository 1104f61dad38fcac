import Derived.Test.YtbcefnfbofpjgaaEql
import Derived.Test.YtbcefnfbofpjgaaMath7
import Derived.Laws.AppendOwnNone
namespace Go.Proofs.Ytbcefnfbofpjgaa
set_option linter.unusedVariables false
open Go.RowKit Go.Shelf Nm

set_option maxRecDepth 100000 in
set_option maxHeartbeats 1000000 in
/-- gazetteerref1.Within -/
theorem refWithin_any (n z : ByteArray) (w : World) (hn : n.size ≤ 1048576) (hz : z.size ≤ 1048576) :
    Calls Try.prog 19 #[.string n, .string z] w fun e w' => e = .returned (.bool (withinB n z)) ∧ Below w.heap.size w w' := by
  obtain ⟨c, hc, hcN⟩ : ∃ c : Int, cntI n = c ∧ (isN n = true → c = ((labs n).length : Nat)) ∧ (isN n = false → c = -1) := ⟨_, rfl, cntI_yes, cntI_no⟩
  have HC : Hid (cntI n = c) := hc
  have HCN : Hid ((isN n = true → c = ((labs n).length : Nat)) ∧ (isN n = false → c = -1)) := hcN
  have hc1 : -1 ≤ c ∧ c ≤ 254 := by
    cases hN : isN n with
    | false => have := HCN.out.2 hN; omega
    | true => have := HCN.out.1 hN; have := labs_len_le hN; omega
  obtain ⟨hc1, hc2⟩ := hc1
  clear hc hcN
  go_enter Try.func19, Try.ntmps19
  go_wp2
  go_loopw [5] (fun i wr => ∃ k : Nat, i = .int .i64 k ∧ (k : Int) ≤ c + 1 ∧ Hid (∀ j : Nat, j < k → eqB (tailB n j) z = false) ∧ Below w.heap.size w wr)
    (fun i _ => (c + 1 - intOf i).toNat)
  case atStart => exact ⟨0, rfl, by omega, fun j hj => absurd hj (Nat.not_lt_zero _), Below.refl _ _⟩
  case round =>
    obtain ⟨k, rfl, hk, HA, hB⟩ := hrel
    by_cases hlt : (k : Int) ≤ c
    · cases hE : eqB (tailB n k) z with
      | true =>
        have HW : Hid (withinB n z = true) := within_some hE
        go_wp2_with (first
          | (go_at_call 29; refine (refCount_any _ _ hn).mono ?_; rintro e w1 ⟨rfl, hB1⟩; rw [HC.out]; have hB := ext_t hB hB1; clear hB1)
          | (go_at_call 33; refine (refTail_any _ _ _ hn).mono ?_; rintro e w1 ⟨rfl, hB1⟩; have hB := ext_t hB hB1; clear hB1)
          | (go_at_call 15; refine (equalName_any _ _ _ (tail_small _ _) hz).mono ?_; rintro e w1 ⟨rfl, hB1⟩; have hB := ext_t hB hB1; clear hB1))
        go_ret
        refine ⟨by rw [HW.out]; rfl, ?_⟩
        assumption
      | false =>
        have HA2 : Hid (∀ j : Nat, j < k + 1 → eqB (tailB n j) z = false) := by
          intro j hj
          by_cases e : j = k
          · subst e; exact hE
          · exact HA.out j (by omega)
        go_wp2_with (first
          | (go_at_call 29; refine (refCount_any _ _ hn).mono ?_; rintro e w1 ⟨rfl, hB1⟩; rw [HC.out]; have hB := ext_t hB hB1; clear hB1)
          | (go_at_call 33; refine (refTail_any _ _ _ hn).mono ?_; rintro e w1 ⟨rfl, hB1⟩; have hB := ext_t hB hB1; clear hB1)
          | (go_at_call 15; refine (equalName_any _ _ _ (tail_small _ _) hz).mono ?_; rintro e w1 ⟨rfl, hB1⟩; have hB := ext_t hB hB1; clear hB1))
        go_roundw
        case rel => exact ⟨k + 1, by go_num, by omega, HA2, by assumption⟩
        case measure => simp [intOf]; omega
    · have HW : Hid (withinB n z = false) := by
        cases hN : isN n with
        | false => exact within_noName hN
        | true =>
          have := HCN.out.1 hN
          exact within_none (fun j hj => HA.out j (by omega))
      go_wp2_with (go_at_call 29; refine (refCount_any _ _ hn).mono ?_; rintro e w1 ⟨rfl, hB1⟩; rw [HC.out]; have hB := ext_t hB hB1; clear hB1)
      go_ret
      refine ⟨by rw [HW.out]; rfl, ?_⟩
      assumption

set_option maxRecDepth 100000 in
set_option maxHeartbeats 1000000 in
/-- name.Graft -/
theorem graft_any (n f t : ByteArray) (w : World) (hn : n.size ≤ maxLen) (hf : f.size ≤ maxLen) (ht : t.size ≤ maxLen) :
    Calls Try.prog 38 #[.string n, .string f, .string t] w fun e w' => e = .returned (.tuple #[.string (graftB n f t).1, .int .i64 (graftB n f t).2]) ∧ Below w.heap.size w w' := by
  have hB := Below.refl w.heap.size w
  by_cases hall : isN n = true ∧ isN f = true ∧ isN t = true
  · obtain ⟨h1, h2, h3⟩ := hall
    have hn255 := ((isN_iff n).1 h1).1
    have hf255 := ((isN_iff f).1 h2).1
    have ht255 := ((isN_iff t).1 h3).1
    cases hw : withinB n f with
    | false =>
      have HG : Hid (graftB n f t = (ByteArray.empty, 5)) := graftB_out ⟨h1, h2, h3⟩ hw
      go_enter Try.func38, Try.ntmps38
      go_wp2_with (first
        | (go_at_call 41; refine (isName_any _ _ (by assumption)).mono ?_; rintro e w1 ⟨rfl, hB1⟩; have hB := ext_t hB hB1; clear hB1)
        | (go_at_call 18; refine (within_any _ _ _ hn hf).mono ?_; rintro e w1 ⟨rfl, hB1⟩; have hB := ext_t hB hB1; clear hB1))
      go_ret2
      refine ⟨by rw [HG.out]; rfl, ?_⟩
      assumption
    | true =>
      have hle := within_size hw
      by_cases hlong : n.size - f.size + t.size ≤ 255
      · have HG : Hid (graftB n f t = (n.extract 0 (n.size - f.size) ++ t, 0)) := graftB_ok ⟨h1, h2, h3⟩ hw hlong
        obtain ⟨d, hd, HD⟩ : ∃ d : Nat, (n.size : Int) - (f.size : Int) = (d : Int) ∧ n.size - f.size = d := ⟨n.size - f.size, by omega, rfl⟩
        rw [HD] at HG hlong
        have hd1 : d ≤ n.size := by omega
        have HD' : Hid (n.size - f.size = d) := HD
        clear HD
        go_enter Try.func38, Try.ntmps38
        go_wp2_with (first
          | (go_at_call 41; refine (isName_any _ _ (by assumption)).mono ?_; rintro e w1 ⟨rfl, hB1⟩; have hB := ext_t hB hB1; clear hB1)
          | (go_at_call 18; refine (within_any _ _ _ hn hf).mono ?_; rintro e w1 ⟨rfl, hB1⟩; have hB := ext_t hB hB1; clear hB1))
        go_ret2
        refine ⟨by rw [HG.out]; rfl, ?_⟩
        assumption
      · have HG : Hid (graftB n f t = (ByteArray.empty, 4)) := graftB_long ⟨h1, h2, h3⟩ hw (by omega)
        obtain ⟨d, hd, HD⟩ : ∃ d : Nat, (n.size : Int) - (f.size : Int) = (d : Int) ∧ n.size - f.size = d := ⟨n.size - f.size, by omega, rfl⟩
        rw [HD] at hlong
        have hlong' : 255 < d + t.size := by omega
        have hd1 : d ≤ n.size := by omega
        clear HD hlong
        go_enter Try.func38, Try.ntmps38
        go_wp2_with (first
          | (go_at_call 41; refine (isName_any _ _ (by assumption)).mono ?_; rintro e w1 ⟨rfl, hB1⟩; have hB := ext_t hB hB1; clear hB1)
          | (go_at_call 18; refine (within_any _ _ _ hn hf).mono ?_; rintro e w1 ⟨rfl, hB1⟩; have hB := ext_t hB hB1; clear hB1))
        go_ret2
        refine ⟨by rw [HG.out]; rfl, ?_⟩
        assumption
  · have HG : Hid (graftB n f t = (ByteArray.empty, 1)) := graftB_no hall
    cases h1 : isN n with
    | false =>
      clear hall
      go_enter Try.func38, Try.ntmps38
      go_wp2_with (go_at_call 41; refine (isName_any _ _ (by assumption)).mono ?_; rintro e w1 ⟨rfl, hB1⟩; have hB := ext_t hB hB1; clear hB1)
      go_ret2
      refine ⟨by rw [HG.out]; rfl, ?_⟩
      assumption
    | true =>
      cases h2 : isN f with
      | false =>
        clear hall
        go_enter Try.func38, Try.ntmps38
        go_wp2_with (go_at_call 41; refine (isName_any _ _ (by assumption)).mono ?_; rintro e w1 ⟨rfl, hB1⟩; have hB := ext_t hB hB1; clear hB1)
        go_ret2
        refine ⟨by rw [HG.out]; rfl, ?_⟩
        assumption
      | true =>
        have h3 : isN t = false := by
          cases h3 : isN t with
          | false => rfl
          | true => exact absurd ⟨h1, h2, h3⟩ hall
        clear hall
        go_enter Try.func38, Try.ntmps38
        go_wp2_with (go_at_call 41; refine (isName_any _ _ (by assumption)).mono ?_; rintro e w1 ⟨rfl, hB1⟩; have hB := ext_t hB hB1; clear hB1)
        go_ret2
        refine ⟨by rw [HG.out]; rfl, ?_⟩
        assumption

theorem grownBy_refl (w : World) (row : Option Nat) : w.grownBy w row := ⟨rfl, rfl, rfl, Nat.le_refl _, fun _ _ _ => rfl⟩

/-- 'append(v, l...)', v the call's own -/
theorem wpList_append_strs {w : World} {ops : Array Oper} {rest : List Oper} {o : Oper} {a : Act} {Q : Exit → Act → World → Prop} (hgd : o.guard = none) (s x : Operand)
    (ho : o.op = .call { callee := .builtin .append, args := #[s, x], argTypes := #[29, 29] })
    (base : Nat) (v : Value) (n : Nat) (xs : List Value) (hs : a.eval s = v) (hown : w.ownsRow base 9 1 v n xs)
    (p : Option Addr) (l : List ByteArray) (c : Nat) (hx : a.eval x = .slice p l.length c) (hat : StrsAt w p l) (hnone : p = none → c = 0)
    (hsm : n + l.length ≤ 4294967296) (hbase : base ≤ w.heap.size)
    (h : ∀ v' w', w'.ownsRow base 9 1 v' (n + l.length) (xs ++ l.map Value.string) → w.grownBy w' v.ownBlock → wpList Try.prog ops Q rest (a.put o.dst v') w') : wpList Try.prog ops Q (o :: rest) a w := by
  obtain ⟨i0, hi, hz0, hz1, hz2⟩ := info_parts Try.infoStr
  cases p with
  | none =>
    have hl : l = [] := by
      cases l with
      | nil => rfl
      | cons y l => obtain ⟨g, off, hp, _⟩ := hat 0 (by simp); cases hp
    subst hl
    have hc := hnone rfl
    subst hc
    refine wpList_append_own_none hgd s x 29 ho base 9 i0 1 Try.underlying29 hi v n xs hs hown hx (h v w ?_ (grownBy_refl _ _))
    simpa using hown
  | some ad =>
    refine wpList_append_own w hgd s x 29 ho base 9 i0 (.string .empty) 1 16 Try.underlying29 hi hz0 hz1 hz2 rfl (by decide) v n xs hs hown ad l.length c (l.map Value.string) hx (by simp) ?_ ?_ (by unfold maxLen; omega) (by omega) hbase (fun v' w' h1 h2 _ => h v' w' h1 h2)
    · intro j u hj
      have hj' : j < l.length := by
        have := (List.getElem?_eq_some_iff.1 hj).1
        simpa using this
      obtain ⟨g, off, hp, _, hc⟩ := hat j hj'
      obtain rfl := Option.some.inj hp
      rw [addr_add, hc]
      simp [hj'] at hj
      rw [hj]
    · intro u hu
      obtain ⟨y, _, rfl⟩ := List.mem_map.1 hu
      rfl

theorem StrsAt.take {w : World} {p : Option Addr} {l : List ByteArray} (h : StrsAt w p l) (d : Nat) : StrsAt w p (l.take d) := by
  intro j hj
  rw [List.length_take] at hj
  obtain ⟨g, off, hp, hg, hc⟩ := h j (by omega)
  exact ⟨g, off, hp, hg, by rw [List.getElem_take]; exact hc⟩

set_option maxRecDepth 100000 in
set_option maxHeartbeats 1000000 in
/-- gazetteerref1.Graft -/
theorem refGraft_any (n f t : ByteArray) (w : World) (hn : n.size ≤ 1048576) (hf : f.size ≤ 1048576) (ht : t.size ≤ 1048576) :
    Calls Try.prog 39 #[.string n, .string f, .string t] w fun e w' => e = .returned (.tuple #[.string (graftB n f t).1, .int .i64 (graftB n f t).2]) ∧ Below w.heap.size w w' := by
  have hB := Below.refl w.heap.size w
  by_cases hall : isN n = true ∧ isN f = true ∧ isN t = true
  · obtain ⟨h1, h2, h3⟩ := hall
    have hn255 := ((isN_iff n).1 h1).1
    have hf255 := ((isN_iff f).1 h2).1
    have ht255 := ((isN_iff t).1 h3).1
    cases hw : withinB n f with
    | false =>
      have HG : Hid (graftB n f t = (ByteArray.empty, 5)) := graftB_out ⟨h1, h2, h3⟩ hw
      go_enter Try.func39, Try.ntmps39
      go_wp2_with (first
        | (go_at_call 23; refine (split_yes _ _ (by assumption) (by assumption)).mono ?_; rintro e w1 ⟨p, cap, rfl, _, hB1⟩; have hB := ext_t hB hB1; clear hB1)
        | (go_at_call 19; refine (refWithin_any _ _ _ hn hf).mono ?_; rintro e w1 ⟨rfl, hB1⟩; have hB := ext_t hB hB1; clear hB1))
      go_ret2
      refine ⟨by rw [HG.out]; rfl, ?_⟩
      assumption
    | true =>
      have hws := within_size hw
      have hcnt := ((withinB_iff n f).1 hw).2.2.1
      have hl1 := labs_len_le h1
      have hl3 := labs_len_le h3
      obtain ⟨d, hd, HD, hd1⟩ : ∃ d : Nat, ((labs n).length : Int) - ((labs f).length : Int) = (d : Int) ∧ Hid ((labs n).length - (labs f).length = d) ∧ d ≤ (labs n).length := ⟨(labs n).length - (labs f).length, by omega, rfl, by omega⟩
      have HS : Hid ((putB ((labs n).take d ++ labs t)).size = n.size - f.size + t.size) := by
        have := graft_put_size hw h3
        rw [HD.out] at this; exact this
      have HO : Hid (∀ x ∈ (labs n).take d ++ labs t, x.size ≤ 255) := fun x hx => by have := ((okL_labs n).take d).append (okL_labs t) x hx; omega
      have HG1 : Hid (n.size - f.size + t.size ≤ 255 → graftB n f t = (putB ((labs n).take d ++ labs t), 0)) := fun h => by
        have := graftB_ok' ⟨h1, h2, h3⟩ hw h
        rw [HD.out] at this; exact this
      have HG2 : Hid (255 < n.size - f.size + t.size → graftB n f t = (ByteArray.empty, 4)) := fun h => graftB_long ⟨h1, h2, h3⟩ hw h
      have hput : (putB ((labs n).take d ++ labs t)).size ≤ 510 := by rw [HS.out]; omega
      generalize hA : (labs n).take d ++ labs t = A at *
      have HA : Hid ((labs n).take d ++ labs t = A) := hA
      clear hA
      have hlen : ((labs n).take d).length = d := by rw [List.length_take]; omega
      have HLEN : Hid (((labs n).take d).length = d) := hlen
      clear hlen
      go_enter Try.func39, Try.ntmps39
      go_wp2_with fail
      refine (split_yes n _ hn h1).mono ?_
      rintro e w1 ⟨p1, cap1, rfl, ⟨hc1, hcap1, hcm1, hnone1⟩, hB1⟩
      go_wp2_with fail
      refine (split_yes f _ hf h2).mono ?_
      rintro e w2 ⟨p2, cap2, rfl, ⟨_, hcap2, hcm2, _⟩, hB2⟩
      go_wp2_with fail
      refine (split_yes t _ ht h3).mono ?_
      rintro e w3 ⟨p3, cap3, rfl, ⟨hc3, hcap3, hcm3, hnone3⟩, hB3⟩
      have hc1' := (hc1.below hB2).below hB3
      clear hc1
      have HN1 : Hid (p1 = none → cap1 = 0) := hnone1
      have HN3 : Hid (p3 = none → cap3 = 0) := hnone3
      clear hnone1 hnone3
      go_wp2_with fail
      refine (refWithin_any n f _ hn hf).mono ?_
      rintro e w4 ⟨rfl, hB4⟩
      have hc14 := (hc1'.below hB4).take d
      have hc34 := hc3.below hB4
      clear hc1' hc3
      have hBx := ext_t (ext_t (ext_t hB1 hB2) hB3) hB4
      clear hB1 hB2 hB3 hB4
      have hz : (putB A).size ≤ 4294967296 := by omega
      by_cases hlong : n.size - f.size + t.size ≤ 255
      · have hshort : (putB A).size ≤ 255 := by rw [HS.out]; exact hlong
        have HG : Hid (graftB n f t = (putB A, 0)) := HG1.out hlong
        clear HG1 HG2 hlong
        go_wp2_with (first
          | (at_builtin; refine wpList_append_strs rfl _ _ rfl w4.heap.size _ 0 [] rfl (World.ownsRow_nil _ _ _ _) p1 ((labs n).take d) cap1 (by rw [HLEN.out]; rfl) hc14 HN1.out (by rw [HLEN.out]; omega) (Nat.le_refl _) ?_; intro v5 w5 hown5 hg5; clear hc14; have hB5 : Below w4.heap.size w4 w5 := (Below.refl _ _).grown hg5 (Nat.le_refl _) (fun k e => ownBlock_le (World.ownsRow_nil w4 w4.heap.size 9 1) e); have hc35 := hc34.below hB5)
          | (at_builtin; refine wpList_append_strs rfl _ _ rfl w4.heap.size v5 _ _ rfl hown5 p3 (labs t) cap3 rfl hc35 HN3.out (by rw [HLEN.out]; omega) hB5.size ?_; intro v6 w6 hown6 hg6; clear hc35; have hB6 : Below w4.heap.size w4 w6 := hB5.grown hg6 hB5.size (fun k e => ownBlock_le hown5 e); have hst : Strs w6 v6 A := Strs.of_owns (base := w4.heap.size) (by rw [← HA.out]; simpa using hown6))
          | (go_at_call 47; refine (put_any _ A _ hst HO.out hz).mono ?_; rintro e w7 ⟨rfl, hB7⟩; have hst := hst.below hB7; have hB6 := bstep hB6 hB7 hB6.size; clear hB7))
        go_ret2
        refine ⟨by rw [HG.out]; rfl, hBx.trans (Below.mono ?_ hBx.size)⟩
        assumption
      · have hshort : 255 < (putB A).size := by rw [HS.out]; omega
        have HG : Hid (graftB n f t = (ByteArray.empty, 4)) := HG2.out (by omega)
        clear HG1 HG2 hlong
        go_wp2_with (first
          | (at_builtin; refine wpList_append_strs rfl _ _ rfl w4.heap.size _ 0 [] rfl (World.ownsRow_nil _ _ _ _) p1 ((labs n).take d) cap1 (by rw [HLEN.out]; rfl) hc14 HN1.out (by rw [HLEN.out]; omega) (Nat.le_refl _) ?_; intro v5 w5 hown5 hg5; clear hc14; have hB5 : Below w4.heap.size w4 w5 := (Below.refl _ _).grown hg5 (Nat.le_refl _) (fun k e => ownBlock_le (World.ownsRow_nil w4 w4.heap.size 9 1) e); have hc35 := hc34.below hB5)
          | (at_builtin; refine wpList_append_strs rfl _ _ rfl w4.heap.size v5 _ _ rfl hown5 p3 (labs t) cap3 rfl hc35 HN3.out (by rw [HLEN.out]; omega) hB5.size ?_; intro v6 w6 hown6 hg6; clear hc35; have hB6 : Below w4.heap.size w4 w6 := hB5.grown hg6 hB5.size (fun k e => ownBlock_le hown5 e); have hst : Strs w6 v6 A := Strs.of_owns (base := w4.heap.size) (by rw [← HA.out]; simpa using hown6))
          | (go_at_call 47; refine (put_any _ A _ hst HO.out hz).mono ?_; rintro e w7 ⟨rfl, hB7⟩; have hst := hst.below hB7; have hB6 := bstep hB6 hB7 hB6.size; clear hB7))
        go_ret2
        refine ⟨by rw [HG.out]; rfl, hBx.trans (Below.mono ?_ hBx.size)⟩
        assumption
  · have HG : Hid (graftB n f t = (ByteArray.empty, 1)) := graftB_no hall
    cases h1 : isN n with
    | false =>
      clear hall
      go_enter Try.func39, Try.ntmps39
      go_wp2_with (go_at_call 23; refine (split_any _ _ (by assumption)).mono ?_; rintro e w1 ⟨v, rfl, _, hB1⟩; have hB := ext_t hB hB1; clear hB1)
      go_ret2
      refine ⟨by rw [HG.out]; rfl, ?_⟩
      assumption
    | true =>
      cases h2 : isN f with
      | false =>
        clear hall
        go_enter Try.func39, Try.ntmps39
        go_wp2_with (go_at_call 23; refine (split_any _ _ (by assumption)).mono ?_; rintro e w1 ⟨v, rfl, _, hB1⟩; have hB := ext_t hB hB1; clear hB1)
        go_ret2
        refine ⟨by rw [HG.out]; rfl, ?_⟩
        assumption
      | true =>
        have h3 : isN t = false := by
          cases h3 : isN t with
          | false => rfl
          | true => exact absurd ⟨h1, h2, h3⟩ hall
        clear hall
        go_enter Try.func39, Try.ntmps39
        go_wp2_with (go_at_call 23; refine (split_any _ _ (by assumption)).mono ?_; rintro e w1 ⟨v, rfl, _, hB1⟩; have hB := ext_t hB hB1; clear hB1)
        go_ret2
        refine ⟨by rw [HG.out]; rfl, ?_⟩
        assumption
end Go.Proofs.Ytbcefnfbofpjgaa
