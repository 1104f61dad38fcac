import Derived.Test.YtennkhdhnbdbeaaGreatSf8G
import Derived.Test.YtennkhdhnbdbeaaGreatRp3G
import Derived.Test.YtennkhdhnbdbeaaGreatSglG
import Derived.Test.YtennkhdhnbdbeaaGreatCn1G
import Derived.Test.YtennkhdhnbdbeaaGreatCntG
import Derived.Test.YtennkhdhnbdbeaaGreatPrW
import Derived.Test.YtennkhdhnbdbeaaGreatMath8G
import Derived.Test.YtennkhdhnbdbeaaGreatSg3G
/-
  gazetteerref4.Zonal. (The verifier's own text.)
-/
namespace Go.Proofs.YtennkhdhnbdbeaaGreat
set_option linter.unusedVariables false
set_option linter.unusedSimpArgs false
open Go.RowKit Go.Shelf Go.Proofs.YtennkhdhnbdbeaaGreat.Nm

set_option maxRecDepth 100000 in
set_option maxHeartbeats 2000000 in
/-- gazetteerref4.Zonal -/
theorem zonal_any (o d : ByteArray) (t c l : Int) (w : World) (ho : o.size ≤ 1048576) (hd : d.size ≤ 9223372036854775807) :
    Calls Tryz.prog 51 #[.agg #[.string o, .int .i64 t, .int .i64 c, .int .i64 l, .string d]] w fun r w' => r = .returned (.bool (zonB o d t c l)) ∧ Below w.heap.size w w' := by
  obtain ⟨W, hW⟩ : ∃ W, w.alloc (.cells #[.string o, .int .i64 t, .int .i64 c, .int .i64 l, .string d] 27) = W := ⟨_, rfl⟩
  have HB : Hid (Below w.heap.size w W) := by rw [← hW]; exact (Below.refl _ _).alloc (Nat.le_refl _) _
  have h0 : Bx (w.alloc (.cells #[.string o, .int .i64 t, .int .i64 c, .int .i64 l, .string d] 27)) w.heap.size #[.string o, .int .i64 t, .int .i64 c, .int .i64 l, .string d] 27 := World.alloc_heap_new w _
  rw [hW] at h0
  have HH := hide' h0
  have QF : Hid (∀ V : World, Bx V w.heap.size #[.string o, .int .i64 t, .int .i64 c, .int .i64 l, .string d] 27 → V.cell? ⟨w.heap.size, 0, none⟩ = some (.string o) ∧ V.cell? ⟨w.heap.size, 1, none⟩ = some (.int .i64 t) ∧ V.cell? ⟨w.heap.size, 2, none⟩ = some (.int .i64 c) ∧ V.cell? ⟨w.heap.size, 3, none⟩ = some (.int .i64 l) ∧ V.cell? ⟨w.heap.size, 4, none⟩ = some (.string d)) := fun V h => ⟨h.cell rfl, h.cell rfl, h.cell rfl, h.cell rfl, h.cell rfl⟩
  obtain ⟨k0, k1, k2, k3, k4⟩ := QF.out W h0
  clear h0
  obtain ⟨ee, hee⟩ : ∃ ee, errD t d = ee := ⟨_, rfl⟩
  have HE := hide' hee
  cases hN : isN o with
  | false =>
    have HV : Hid (zonB o d t c l = false) := by unfold Hid zonB; rw [hN]; rfl
    have HN := hide' hN
    rw [HV.out]
    go_enter Tryz.func51, Tryz.ntmps51
    go_wp2_with (first
      | (go_at_call 34; refine (refIsName_any o _ ho).mono ?_; rw [HN.out]; rintro r w1 ⟨rfl, hB1⟩; have HH1 := hide' (HH.out.below hB1 HH.out.lt); have HB1 := hide' (bstep HB.out hB1 HB.out.size); obtain ⟨j0, j1, j2, j3, j4⟩ := QF.out w1 HH1.out; clear hB1)
      | (go_at_call 89; refine (refCheckData_any t d _ hd).mono ?_; rw [HE.out]; rintro r w2 ⟨rfl, hB2⟩; have HB2 := hide' (bstep HB1.out hB2 HB1.out.size); clear hB2))
    go_ret
    exact ⟨rfl, by first | exact HB2.out | exact HB1.out⟩
  | true =>
    have HN := hide' hN
    by_cases hc : c = 1
    · by_cases hl0 : 0 ≤ l
      · by_cases hl1 : l ≤ 2147483647
        · by_cases h0 : ee = 0
          · have HV : Hid (zonB o d t c l = true) := by unfold Hid zonB; rw [hN, decide_eq_true hc, decide_eq_true hl0, decide_eq_true hl1, decide_eq_true (hee.trans h0)]; rfl
            subst h0
            subst hc
            clear hN hee
            rw [HV.out]
            go_enter Tryz.func51, Tryz.ntmps51
            go_wp2_with (first
              | (go_at_call 34; refine (refIsName_any o _ ho).mono ?_; rw [HN.out]; rintro r w1 ⟨rfl, hB1⟩; have HH1 := hide' (HH.out.below hB1 HH.out.lt); have HB1 := hide' (bstep HB.out hB1 HB.out.size); obtain ⟨j0, j1, j2, j3, j4⟩ := QF.out w1 HH1.out; clear hB1)
              | (go_at_call 89; refine (refCheckData_any t d _ hd).mono ?_; rw [HE.out]; rintro r w2 ⟨rfl, hB2⟩; have HB2 := hide' (bstep HB1.out hB2 HB1.out.size); clear hB2))
            go_ret
            exact ⟨rfl, by first | exact HB2.out | exact HB1.out⟩
          · have HV : Hid (zonB o d t c l = false) := by unfold Hid zonB; rw [decide_eq_false (fun h => h0 (hee.symm.trans h))]; simp
            have hb : ((ee : Int) == 0) = false := by rw [beq_eq_false_iff_ne]; omega
            have hb2 : ¬ (ee : Int) = 0 := by omega
            subst hc
            clear hN hee h0
            rw [HV.out]
            go_enter Tryz.func51, Tryz.ntmps51
            go_wp2_with (first
              | (go_at_call 34; refine (refIsName_any o _ ho).mono ?_; rw [HN.out]; rintro r w1 ⟨rfl, hB1⟩; have HH1 := hide' (HH.out.below hB1 HH.out.lt); have HB1 := hide' (bstep HB.out hB1 HB.out.size); obtain ⟨j0, j1, j2, j3, j4⟩ := QF.out w1 HH1.out; clear hB1)
              | (go_at_call 89; refine (refCheckData_any t d _ hd).mono ?_; rw [HE.out]; rintro r w2 ⟨rfl, hB2⟩; have HB2 := hide' (bstep HB1.out hB2 HB1.out.size); clear hB2))
            go_ret
            exact ⟨rfl, by first | exact HB2.out | exact HB1.out⟩
        · have HV : Hid (zonB o d t c l = false) := by unfold Hid zonB; rw [decide_eq_false hl1]; simp
          subst hc
          clear hN hee
          rw [HV.out]
          go_enter Tryz.func51, Tryz.ntmps51
          go_wp2_with (first
            | (go_at_call 34; refine (refIsName_any o _ ho).mono ?_; rw [HN.out]; rintro r w1 ⟨rfl, hB1⟩; have HH1 := hide' (HH.out.below hB1 HH.out.lt); have HB1 := hide' (bstep HB.out hB1 HB.out.size); obtain ⟨j0, j1, j2, j3, j4⟩ := QF.out w1 HH1.out; clear hB1)
            | (go_at_call 89; refine (refCheckData_any t d _ hd).mono ?_; rw [HE.out]; rintro r w2 ⟨rfl, hB2⟩; have HB2 := hide' (bstep HB1.out hB2 HB1.out.size); clear hB2))
          go_ret
          exact ⟨rfl, by first | exact HB2.out | exact HB1.out⟩
      · have HV : Hid (zonB o d t c l = false) := by unfold Hid zonB; rw [decide_eq_false hl0]; simp
        subst hc
        clear hN hee
        rw [HV.out]
        go_enter Tryz.func51, Tryz.ntmps51
        go_wp2_with (first
          | (go_at_call 34; refine (refIsName_any o _ ho).mono ?_; rw [HN.out]; rintro r w1 ⟨rfl, hB1⟩; have HH1 := hide' (HH.out.below hB1 HH.out.lt); have HB1 := hide' (bstep HB.out hB1 HB.out.size); obtain ⟨j0, j1, j2, j3, j4⟩ := QF.out w1 HH1.out; clear hB1)
          | (go_at_call 89; refine (refCheckData_any t d _ hd).mono ?_; rw [HE.out]; rintro r w2 ⟨rfl, hB2⟩; have HB2 := hide' (bstep HB1.out hB2 HB1.out.size); clear hB2))
        go_ret
        exact ⟨rfl, by first | exact HB2.out | exact HB1.out⟩
    · have HV : Hid (zonB o d t c l = false) := by unfold Hid zonB; rw [decide_eq_false hc]; simp
      have hb : (c == 1) = false := by rw [beq_eq_false_iff_ne]; exact hc
      clear hN hee
      rw [HV.out]
      go_enter Tryz.func51, Tryz.ntmps51
      go_wp2_with (first
        | (go_at_call 34; refine (refIsName_any o _ ho).mono ?_; rw [HN.out]; rintro r w1 ⟨rfl, hB1⟩; have HH1 := hide' (HH.out.below hB1 HH.out.lt); have HB1 := hide' (bstep HB.out hB1 HB.out.size); obtain ⟨j0, j1, j2, j3, j4⟩ := QF.out w1 HH1.out; clear hB1)
        | (go_at_call 89; refine (refCheckData_any t d _ hd).mono ?_; rw [HE.out]; rintro r w2 ⟨rfl, hB2⟩; have HB2 := hide' (bstep HB1.out hB2 HB1.out.size); clear hB2))
      go_ret
      exact ⟨rfl, by first | exact HB2.out | exact HB1.out⟩
end Go.Proofs.YtennkhdhnbdbeaaGreat

/-
  A set, record by record. (The verifier's own text.)
-/
namespace Go.Proofs.YtennkhdhnbdbeaaGreat
set_option linter.unusedVariables false
set_option linter.unusedSimpArgs false
open Go.RowKit Go.Shelf Go.Sort Go.Proofs.YtennkhdhnbdbeaaGreat.Nm

/-- a record as it is signed of -/
def fdR (r : Rn) : ByteArray := foldD r.t r.d
/-- the first k are what a set has -/
def goodL (L : List Rn) (k : Nat) : Prop := ∀ i, (hi : i < L.length) → i < k → (zonB L[i].o L[i].d L[i].t L[i].c L[i].l = true ∧ L[i].t ≠ 46 ∧ L[i].t = (hdR L).t ∧ eqB L[i].o (hdR L).o = true) ∧ ∀ j, (hj : j < i) → fdR L[i] ≠ fdR L[j]
theorem set_good (L : List Rn) : setOK L = true ↔ 0 < L.length ∧ goodL L L.length := by
  constructor
  · intro h
    obtain ⟨h1, h2, h3, h4⟩ := set_facts h
    refine ⟨setOK_pos h, fun i hi _ => ?_⟩
    obtain ⟨z, t, q⟩ := h3 _ (List.getElem_mem hi)
    refine ⟨⟨z, by rw [t]; exact h1, t, q⟩, fun j hj e => ?_⟩
    have hl : (srt (fdL L)).length = L.length := by unfold srt; rw [List.length_mergeSort, fdL_len]
    have hn := (compact_nodup (fdL L)).1 (by rw [h4, hl])
    have := List.pairwise_iff_getElem.1 hn j i (by rw [fdL_len]; omega) (by rw [fdL_len]; exact hi) hj
    apply this
    simp only [fdL, List.getElem_map]
    unfold fdR at e
    rw [e]
  · rintro ⟨hp, hg⟩
    have hm : ∀ r ∈ L, zonB r.o r.d r.t r.c r.l = true ∧ r.t = (hdR L).t ∧ eqB r.o (hdR L).o = true := fun r hr => by
      obtain ⟨i, hi, rfl⟩ := List.getElem_of_mem hr
      obtain ⟨⟨a, b, c, d⟩, -⟩ := hg i hi hi
      exact ⟨a, c, d⟩
    refine set_of hp ?_ hm ?_
    · have := (hg 0 hp hp).1.2.1
      rw [hdR_eq hp] at this
      exact this
    · have hl : (srt (fdL L)).length = L.length := by unfold srt; rw [List.length_mergeSort, fdL_len]
      rw [← hl]
      refine (compact_nodup (fdL L)).2 (List.pairwise_iff_getElem.2 fun i j hi hj hij => ?_)
      rw [fdL_len] at hi hj
      intro e
      have h2 := (hg j hj hj).2 i hij
      apply h2
      unfold fdR
      simp only [fdL, List.getElem_map] at e
      apply ByteArray.ext
      exact Array.toList_inj.1 e.symm
end Go.Proofs.YtennkhdhnbdbeaaGreat

/-
  gazetteerref4.sorted. (The verifier's own text.)
-/
namespace Go.Proofs.YtennkhdhnbdbeaaGreat
set_option linter.unusedVariables false
set_option linter.unusedSimpArgs false
open Go.RowKit Go.Shelf Go.Sort Go.Proofs.YtennkhdhnbdbeaaGreat.Nm

/-- texts in their order -/
def ordB (l : List ByteArray) : Prop := l.Pairwise (fun a b => a.data.toList ≤ b.data.toList)
theorem ord_insert {l : List ByteArray} (h : ordB l) (x : ByteArray) (j : Nat) (hj : j ≤ l.length) (h1 : ∀ i, (hi : i < l.length) → i < j → l[i].data.toList < x.data.toList) (h2 : (hl : j < l.length) → ¬ l[j].data.toList < x.data.toList) : ordB (l.take j ++ [x] ++ l.drop j) := by
  unfold ordB
  rw [List.append_assoc, List.pairwise_append]
  refine ⟨h.sublist (List.take_sublist _ _), ?_, ?_⟩
  · rw [List.singleton_append, List.pairwise_cons]
    refine ⟨fun y hy => ?_, h.sublist (List.drop_sublist _ _)⟩
    obtain ⟨i, hi, rfl⟩ := List.getElem_of_mem hy
    rw [List.length_drop] at hi
    have hl : j < l.length := by omega
    have h3 : x.data.toList ≤ l[j].data.toList := h2 hl
    rw [List.getElem_drop]
    rcases Nat.eq_zero_or_pos i with rfl | hp
    · exact h3
    · exact List.le_trans h3 (List.pairwise_iff_getElem.1 h j (j + i) hl (by omega) (by omega))
  · intro a ha b hb
    obtain ⟨i, hi, rfl⟩ := List.getElem_of_mem ha
    rw [List.length_take] at hi
    rw [List.getElem_take]
    have h3 := h1 i (by omega) (by omega)
    have h4 : l[i].data.toList ≤ x.data.toList := List.le_of_lt h3
    rw [List.singleton_append] at hb
    rcases List.mem_cons.1 hb with rfl | hb
    · exact h4
    · obtain ⟨i2, hi2, rfl⟩ := List.getElem_of_mem hb
      rw [List.length_drop] at hi2
      rw [List.getElem_drop]
      exact List.pairwise_iff_getElem.1 h i (j + i2) (by omega) (by omega) (by omega)
theorem perm_insert (l : List ByteArray) (x : ByteArray) (j : Nat) : (l.take j ++ [x] ++ l.drop j).Perm (x :: l) := by
  have h : (l.take j ++ ([x] ++ l.drop j)).Perm (x :: (l.take j ++ l.drop j)) := List.perm_middle
  rw [List.take_append_drop] at h
  rw [List.append_assoc]
  exact h
/-- what is sorted and a permutation is the one -/
theorem ord_srt {l m : List ByteArray} (h : ordB l) (hp : l.Perm m) : l.map (·.data.toList) = srt (m.map (·.data.toList)) := by
  have h1 : (l.map (·.data.toList)).Pairwise (fun a b => a ≤ b) := List.pairwise_map.2 h
  refine List.Perm.eq_of_pairwise (le := fun a b : List UInt8 => a ≤ b) (fun a b _ _ h2 h3 => List.le_antisymm h2 h3) h1 (srt_sorted _) ?_
  exact (hp.map _).trans (List.mergeSort_perm _ _).symm
theorem less_data (a b : ByteArray) : Op.bytesLess a.toList b.toList = decide (a.data.toList < b.data.toList) := by rw [toList_eq, toList_eq]; exact bytesLess_eq _ _
theorem ownsRow_mono {w : World} {b b' e s n : Nat} {v : Value} {xs : List Value} (h : w.ownsRow b e s v n xs) (hb : b' ≤ b) : w.ownsRow b' e s v n xs := by
  refine ⟨h.1, ?_⟩
  rcases h.2 with h1 | ⟨g, cap, cur, h1, h2, h3⟩
  · exact .inl h1
  · exact .inr ⟨g, cap, cur, h1, Nat.le_trans hb h2, h3⟩
theorem one_str (w : World) (x : ByteArray) : StrsAt (w.alloc (.cells #[.string x] 9)) (some ⟨w.heap.size, 0, none⟩) [x] := fun i hi => by
  have hi0 : i = 0 := by simpa using hi
  subst hi0
  have h : Bx (w.alloc (.cells #[.string x] 9)) w.heap.size #[.string x] 9 := World.alloc_heap_new w _
  exact ⟨w.heap.size, 0, rfl, h.lt, h.cell rfl⟩
theorem strs_drop {w : World} {g : Nat} {l : List ByteArray} (h : StrsAt w (some ⟨g, 0, none⟩) l) (j : Nat) : StrsAt w (some ⟨g, j, none⟩) (l.drop j) := fun i hi => by
  rw [List.length_drop] at hi
  obtain ⟨g', off, h1, h2, h3⟩ := h (j + i) (by omega)
  injection h1 with h1
  injection h1 with h4 h5
  subst h4
  subst h5
  exact ⟨g, j, rfl, h2, by rw [List.getElem_drop]; simpa using h3⟩
set_option maxRecDepth 100000 in
set_option maxHeartbeats 8000000 in
/-- gazetteerref4.sorted -/
theorem refSorted_any (l : List ByteArray) (p : Option Addr) (cap : Nat) (w : World) (hl : l.length ≤ 1048576) (hat : StrsAt w p l) :
    Calls Tryz.prog 85 #[.slice p l.length cap] w fun r w' => ∃ v out, r = .returned v ∧ w'.ownsRow w.heap.size 9 1 v l.length ((out : List ByteArray).map Value.string) ∧ out.map (·.data.toList) = srt (l.map (·.data.toList)) ∧ Below w.heap.size w w' := by
  obtain ⟨nl, hnl⟩ : ∃ nl, l.length = nl := ⟨_, rfl⟩
  have HAT := hide' hat
  have HNL := hide' hnl
  rw [hnl] at hl ⊢
  clear hat hnl
  go_enter Tryz.func85, Tryz.ntmps85
  go_wp2_with fail
  go_loopw [3, 10] (fun vo iv wr => ∃ (k : Nat) (out : List ByteArray), iv = .int .i64 (k : Int) ∧ k ≤ nl ∧ out.length = k ∧ Hid (ordB out) ∧ Hid (out.Perm (l.take k)) ∧ Hid (wr.ownsRow w.heap.size 9 1 vo k (out.map Value.string)) ∧ Hid (Below w.heap.size w wr)) (fun _ iv _ => nl - (intOf iv).toNat)
  case atStart => exact ⟨0, [], rfl, Nat.zero_le _, rfl, List.Pairwise.nil, by unfold Hid; simp, World.ownsRow_nil _ _ _ _, Below.refl _ _⟩
  case round =>
    obtain ⟨k, out, rfl, hk, hol, OO, OP, OW, HB⟩ := hrel
    by_cases hlt : k < nl
    · have hki : (k : Int) < (nl : Int) := by omega
      have hkl : k < l.length := by rw [HNL.out]; exact hlt
      obtain ⟨gl, ol, hpl, hgl, hcl⟩ := HAT.out.below HB.out k hkl
      subst hpl
      have HTK : Hid ((l.take (k + 1)).Perm (l[k] :: l.take k)) := by
        unfold Hid
        rw [List.take_succ_eq_append_getElem hkl]
        exact List.perm_append_comm
      obtain ⟨x, hx⟩ : ∃ x, l[k] = x := ⟨_, rfl⟩
      rw [hx] at hcl HTK
      clear hx
      obtain ⟨po, co, rfl, hc1, hc2, hsh⟩ := owns_shape OW.out
      have hso : StrsAt wr po out := by
        obtain ⟨p', c', hv, hs⟩ := Strs.of_owns (l := out) (by rw [hol]; exact OW.out)
        injection hv with h1 h2 h3
        subst h1
        exact hs
      have HSO := hide' hso
      have HSH := hide' hsh
      clear hso hsh
      go_wp2_with fail
      go_loopw [6] (fun jv wr2 => ∃ j : Nat, jv = .int .i64 (j : Int) ∧ j ≤ k ∧ Hid (∀ i, (hi : i < out.length) → i < j → out[i].data.toList < x.data.toList) ∧ wr2 = wr) (fun jv _ => k - (intOf jv).toNat)
      case atStart => exact ⟨0, rfl, Nat.zero_le _, (fun i _ h => absurd h (Nat.not_lt_zero _)), rfl⟩
      case round =>
        obtain ⟨j, rfl, hj, LJ, hwr⟩ := hrel
        subst hwr
        have T1 : Hid True := trivial
        have HLT : Hid ((out.take j).length = j) := by unfold Hid; rw [List.length_take]; omega
        have HLD : Hid ((out.drop j).length = k - j) := by unfold Hid; rw [List.length_drop]; omega
        rcases HSH.out with ⟨hpn, hk0⟩ | ⟨go, hps, hgo, hgl2⟩
        · subst hpn
          obtain rfl : j = 0 := by omega
          subst hk0
          have hco : co = 0 := by
            rcases OW.out.2 with ⟨h1, _⟩ | ⟨g', cap', cur, h1, _⟩
            · injection h1
            · injection h1 with h1; cases h1
          subst hco
          have hoe : out = [] := List.length_eq_zero_iff.1 (by omega)
          have HNO : Hid ((none : Option Addr) = none → (0 : Nat) = 0) := fun _ => rfl
          have HND := HNO
          have HSD : Hid (∀ W : World, Below wr.heap.size wr W → StrsAt W none (out.drop 0)) := fun W hb i hi => by rw [hoe] at hi; simp at hi
          have HEX : Hid ((hl : 0 < out.length) → ¬ out[0].data.toList < x.data.toList) := fun h => by rw [hoe] at h; simp at h
          clear hoe
          go_wp2_with (first
            | (at_builtin; have _ := T1; clear T1; refine wpList_append_strs rfl _ _ rfl wr.heap.size _ 0 [] rfl (World.ownsRow_nil _ _ _ _) none (out.take 0) 0 (by rw [HLT.out]; rfl) (HSO.out.take 0) HNO.out (by rw [HLT.out]; omega) (Nat.le_refl _) ?_; intro v5 w5 hown5 hg5; have HB5 : Hid (Below wr.heap.size wr w5) := (Below.refl _ _).grown hg5 (Nat.le_refl _) (fun q e => ownBlock_le (World.ownsRow_nil wr wr.heap.size 9 1) e); have HO5 := hide' hown5; clear hown5 hg5; have T2 : Hid True := trivial; have hat6 : StrsAt (w5.alloc (.cells #[.string x] 9)) (some ⟨w5.heap.size, 0, none⟩) [x] := one_str w5 x; have HO6 : Hid ((w5.alloc (.cells #[.string x] 9)).ownsRow wr.heap.size 9 1 v5 (0 + (out.take 0).length) ([] ++ (out.take 0).map Value.string)) := ownsRow_below HO5.out ((Below.refl _ _).alloc (Nat.le_refl _) _); have HB6 : Hid (Below wr.heap.size wr (w5.alloc (.cells #[.string x] 9))) := HB5.out.alloc HB5.out.size _)
            | (at_builtin; have _ := T2; clear T2; refine wpList_append_strs rfl _ _ rfl wr.heap.size v5 _ _ rfl HO6.out (some ⟨w5.heap.size, 0, none⟩) [x] 1 rfl hat6 (fun e => by cases e) (by rw [HLT.out]; simp only [List.length_cons, List.length_nil]; omega) HB6.out.size ?_; intro v7 w7 hown7 hg7; have HB7 : Hid (Below wr.heap.size wr w7) := HB6.out.grown hg7 HB6.out.size (fun q e => ownBlock_le HO6.out e); have HO7 := hide' hown7; clear hown7 hg7 hat6; have T3 : Hid True := trivial)
            | (at_builtin; have _ := T3; clear T3; refine wpList_append_strs rfl _ _ rfl wr.heap.size v7 _ _ rfl HO7.out none (out.drop 0) 0 (by rw [HLD.out]; first | rfl | (go_num)) (HSD.out _ HB7.out) HND.out (by rw [HLT.out, HLD.out]; simp only [List.length_cons, List.length_nil]; omega) HB7.out.size ?_; intro v8 w8 hown8 hg8; have HB8 : Hid (Below wr.heap.size wr w8) := HB7.out.grown hg8 HB7.out.size (fun q e => ownBlock_le HO7.out e); have HO8 := hide' hown8; clear hown8 hg8))
          refine ⟨⟨0 + 1, out.take 0 ++ [x] ++ out.drop 0, by go_num, by omega, ?_, ?_, ?_, ?_, bstep HB.out HB8.out HB.out.size⟩, by simp [intOf]; omega⟩
          · rw [(perm_insert out x 0).length_eq, List.length_cons, hol]
          · exact ord_insert OO.out x 0 (by omega) LJ.out HEX.out
          · exact (perm_insert out x 0).trans ((OP.out.cons x).trans HTK.out.symm)
          · have h9 := ownsRow_mono HO8.out HB.out.size
            have e1 : 0 + (out.take 0).length + [x].length + (out.drop 0).length = 0 + 1 := by rw [HLT.out, HLD.out]; simp only [List.length_cons, List.length_nil] <;> omega
            have e2 : [] ++ (out.take 0).map Value.string ++ [x].map Value.string ++ (out.drop 0).map Value.string = (out.take 0 ++ [x] ++ out.drop 0).map Value.string := by simp
            rw [e1, e2] at h9
            exact h9
        · subst hps
          have hci : (k : Int) ≤ (co : Int) := by omega
          have hjk2 : (j : Int) ≤ (k : Int) := by omega
          have HNO : Hid ((some (⟨go, 0, none⟩ : Addr)) = none → co = 0) := fun e => by cases e
          have HND : Hid ((some (⟨go, j, none⟩ : Addr)) = none → co - j = 0) := fun e => by cases e
          have HSD : Hid (∀ W : World, Below wr.heap.size wr W → StrsAt W (some ⟨go, j, none⟩) (out.drop j)) := fun W hb => strs_drop (HSO.out.below hb) j
          by_cases hjk : j < k
          · have hjc : (j : Int) < (co : Int) := by omega
            have hjl : j < out.length := by omega
            have hji : (j : Int) < (k : Int) := by omega
            obtain ⟨g', off', hpp, _, hcj⟩ := HSO.out j hjl
            injection hpp with hpp
            injection hpp with hp1 hp2
            subst hp1
            subst hp2
            rw [Nat.zero_add] at hcj
            by_cases hlx : out[j].data.toList < x.data.toList
            · have hbl : Op.bytesLess out[j].toList x.toList = true := by rw [less_data, decide_eq_true hlx]
              have LJ2 : Hid (∀ i, (hi : i < out.length) → i < j + 1 → out[i].data.toList < x.data.toList) := fun i hi hij => by
                rcases Nat.lt_or_ge i j with h | h
                · exact LJ.out i hi h
                · obtain rfl : i = j := by omega
                  exact hlx
              clear hlx
              generalize out[j] = y at hcj hbl
              go_wp2_with fail
              exact ⟨⟨j + 1, by go_num, by omega, LJ2, by first | rfl | trivial⟩, by simp [intOf]; omega⟩
            · have hbl : Op.bytesLess out[j].toList x.toList = false := by rw [less_data, decide_eq_false hlx]
              have HEX : Hid ((hl : j < out.length) → ¬ out[j].data.toList < x.data.toList) := fun _ => hlx
              clear hlx
              generalize out[j] = y at hcj hbl
              go_wp2_with (first
                | (at_builtin; have _ := T1; clear T1; refine wpList_append_strs rfl _ _ rfl wr.heap.size _ 0 [] rfl (World.ownsRow_nil _ _ _ _) (some ⟨go, 0, none⟩) (out.take j) co (by rw [HLT.out]; rfl) (HSO.out.take j) HNO.out (by rw [HLT.out]; omega) (Nat.le_refl _) ?_; intro v5 w5 hown5 hg5; have HB5 : Hid (Below wr.heap.size wr w5) := (Below.refl _ _).grown hg5 (Nat.le_refl _) (fun q e => ownBlock_le (World.ownsRow_nil wr wr.heap.size 9 1) e); have HO5 := hide' hown5; clear hown5 hg5; have T2 : Hid True := trivial; have hat6 : StrsAt (w5.alloc (.cells #[.string x] 9)) (some ⟨w5.heap.size, 0, none⟩) [x] := one_str w5 x; have HO6 : Hid ((w5.alloc (.cells #[.string x] 9)).ownsRow wr.heap.size 9 1 v5 (0 + (out.take j).length) ([] ++ (out.take j).map Value.string)) := ownsRow_below HO5.out ((Below.refl _ _).alloc (Nat.le_refl _) _); have HB6 : Hid (Below wr.heap.size wr (w5.alloc (.cells #[.string x] 9))) := HB5.out.alloc HB5.out.size _)
                | (at_builtin; have _ := T2; clear T2; refine wpList_append_strs rfl _ _ rfl wr.heap.size v5 _ _ rfl HO6.out (some ⟨w5.heap.size, 0, none⟩) [x] 1 rfl hat6 (fun e => by cases e) (by rw [HLT.out]; simp only [List.length_cons, List.length_nil]; omega) HB6.out.size ?_; intro v7 w7 hown7 hg7; have HB7 : Hid (Below wr.heap.size wr w7) := HB6.out.grown hg7 HB6.out.size (fun q e => ownBlock_le HO6.out e); have HO7 := hide' hown7; clear hown7 hg7 hat6; have T3 : Hid True := trivial)
                | (at_builtin; have _ := T3; clear T3; refine wpList_append_strs rfl _ _ rfl wr.heap.size v7 _ _ rfl HO7.out (some ⟨go, j, none⟩) (out.drop j) (co - j) (by rw [HLD.out]; first | rfl | (go_num)) (HSD.out _ HB7.out) HND.out (by rw [HLT.out, HLD.out]; simp only [List.length_cons, List.length_nil]; omega) HB7.out.size ?_; intro v8 w8 hown8 hg8; have HB8 : Hid (Below wr.heap.size wr w8) := HB7.out.grown hg8 HB7.out.size (fun q e => ownBlock_le HO7.out e); have HO8 := hide' hown8; clear hown8 hg8))
              refine ⟨⟨k + 1, out.take j ++ [x] ++ out.drop j, by go_num, by omega, ?_, ?_, ?_, ?_, bstep HB.out HB8.out HB.out.size⟩, by simp [intOf]; omega⟩
              · rw [(perm_insert out x j).length_eq, List.length_cons, hol]
              · exact ord_insert OO.out x j (by omega) LJ.out HEX.out
              · exact (perm_insert out x j).trans ((OP.out.cons x).trans HTK.out.symm)
              · have h9 := ownsRow_mono HO8.out HB.out.size
                have e1 : 0 + (out.take j).length + [x].length + (out.drop j).length = k + 1 := by rw [HLT.out, HLD.out]; simp only [List.length_cons, List.length_nil] <;> omega
                have e2 : [] ++ (out.take j).map Value.string ++ [x].map Value.string ++ (out.drop j).map Value.string = (out.take j ++ [x] ++ out.drop j).map Value.string := by simp
                rw [e1, e2] at h9
                exact h9
          · obtain rfl : j = k := by omega
            have HEX : Hid ((hl : j < out.length) → ¬ out[j].data.toList < x.data.toList) := fun h => by omega
            by_cases hcj : co = j
            · subst hcj
              have HLD : Hid ((out.drop co).length = 0) := by unfold Hid; rw [List.length_drop]; omega
              have HND : Hid ((some (⟨go, 0, none⟩ : Addr)) = none → (0 : Nat) = 0) := fun e => by cases e
              have HSD : Hid (∀ W : World, Below wr.heap.size wr W → StrsAt W (some ⟨go, 0, none⟩) (out.drop co)) := fun W hb i hi => by rw [List.length_drop] at hi; omega
              go_wp2_with (first
                | (at_builtin; have _ := T1; clear T1; refine wpList_append_strs rfl _ _ rfl wr.heap.size _ 0 [] rfl (World.ownsRow_nil _ _ _ _) (some ⟨go, 0, none⟩) (out.take co) co (by rw [HLT.out]; rfl) (HSO.out.take co) HNO.out (by rw [HLT.out]; omega) (Nat.le_refl _) ?_; intro v5 w5 hown5 hg5; have HB5 : Hid (Below wr.heap.size wr w5) := (Below.refl _ _).grown hg5 (Nat.le_refl _) (fun q e => ownBlock_le (World.ownsRow_nil wr wr.heap.size 9 1) e); have HO5 := hide' hown5; clear hown5 hg5; have T2 : Hid True := trivial; have hat6 : StrsAt (w5.alloc (.cells #[.string x] 9)) (some ⟨w5.heap.size, 0, none⟩) [x] := one_str w5 x; have HO6 : Hid ((w5.alloc (.cells #[.string x] 9)).ownsRow wr.heap.size 9 1 v5 (0 + (out.take co).length) ([] ++ (out.take co).map Value.string)) := ownsRow_below HO5.out ((Below.refl _ _).alloc (Nat.le_refl _) _); have HB6 : Hid (Below wr.heap.size wr (w5.alloc (.cells #[.string x] 9))) := HB5.out.alloc HB5.out.size _)
                | (at_builtin; have _ := T2; clear T2; refine wpList_append_strs rfl _ _ rfl wr.heap.size v5 _ _ rfl HO6.out (some ⟨w5.heap.size, 0, none⟩) [x] 1 rfl hat6 (fun e => by cases e) (by rw [HLT.out]; simp only [List.length_cons, List.length_nil]; omega) HB6.out.size ?_; intro v7 w7 hown7 hg7; have HB7 : Hid (Below wr.heap.size wr w7) := HB6.out.grown hg7 HB6.out.size (fun q e => ownBlock_le HO6.out e); have HO7 := hide' hown7; clear hown7 hg7 hat6; have T3 : Hid True := trivial)
                | (at_builtin; have _ := T3; clear T3; refine wpList_append_strs rfl _ _ rfl wr.heap.size v7 _ _ rfl HO7.out (some ⟨go, 0, none⟩) (out.drop co) 0 (by rw [HLD.out]; first | rfl | (go_num)) (HSD.out _ HB7.out) HND.out (by rw [HLT.out, HLD.out]; simp only [List.length_cons, List.length_nil]; omega) HB7.out.size ?_; intro v8 w8 hown8 hg8; have HB8 : Hid (Below wr.heap.size wr w8) := HB7.out.grown hg8 HB7.out.size (fun q e => ownBlock_le HO7.out e); have HO8 := hide' hown8; clear hown8 hg8))
              refine ⟨⟨co + 1, out.take co ++ [x] ++ out.drop co, by go_num, by omega, ?_, ?_, ?_, ?_, bstep HB.out HB8.out HB.out.size⟩, by simp [intOf]; omega⟩
              · rw [(perm_insert out x co).length_eq, List.length_cons, hol]
              · exact ord_insert OO.out x co (by omega) LJ.out HEX.out
              · exact (perm_insert out x co).trans ((OP.out.cons x).trans HTK.out.symm)
              · have h9 := ownsRow_mono HO8.out HB.out.size
                have e1 : 0 + (out.take co).length + [x].length + (out.drop co).length = co + 1 := by rw [HLT.out, HLD.out]; simp only [List.length_cons, List.length_nil] <;> omega
                have e2 : [] ++ (out.take co).map Value.string ++ [x].map Value.string ++ (out.drop co).map Value.string = (out.take co ++ [x] ++ out.drop co).map Value.string := by simp
                rw [e1, e2] at h9
                exact h9
            · have hcj2 : (j : Int) < (co : Int) := by omega
              have HLD : Hid ((out.drop j).length = 0) := by unfold Hid; rw [List.length_drop]; omega
              go_wp2_with (first
                | (at_builtin; have _ := T1; clear T1; refine wpList_append_strs rfl _ _ rfl wr.heap.size _ 0 [] rfl (World.ownsRow_nil _ _ _ _) (some ⟨go, 0, none⟩) (out.take j) co (by rw [HLT.out]; rfl) (HSO.out.take j) HNO.out (by rw [HLT.out]; omega) (Nat.le_refl _) ?_; intro v5 w5 hown5 hg5; have HB5 : Hid (Below wr.heap.size wr w5) := (Below.refl _ _).grown hg5 (Nat.le_refl _) (fun q e => ownBlock_le (World.ownsRow_nil wr wr.heap.size 9 1) e); have HO5 := hide' hown5; clear hown5 hg5; have T2 : Hid True := trivial; have hat6 : StrsAt (w5.alloc (.cells #[.string x] 9)) (some ⟨w5.heap.size, 0, none⟩) [x] := one_str w5 x; have HO6 : Hid ((w5.alloc (.cells #[.string x] 9)).ownsRow wr.heap.size 9 1 v5 (0 + (out.take j).length) ([] ++ (out.take j).map Value.string)) := ownsRow_below HO5.out ((Below.refl _ _).alloc (Nat.le_refl _) _); have HB6 : Hid (Below wr.heap.size wr (w5.alloc (.cells #[.string x] 9))) := HB5.out.alloc HB5.out.size _)
                | (at_builtin; have _ := T2; clear T2; refine wpList_append_strs rfl _ _ rfl wr.heap.size v5 _ _ rfl HO6.out (some ⟨w5.heap.size, 0, none⟩) [x] 1 rfl hat6 (fun e => by cases e) (by rw [HLT.out]; simp only [List.length_cons, List.length_nil]; omega) HB6.out.size ?_; intro v7 w7 hown7 hg7; have HB7 : Hid (Below wr.heap.size wr w7) := HB6.out.grown hg7 HB6.out.size (fun q e => ownBlock_le HO6.out e); have HO7 := hide' hown7; clear hown7 hg7 hat6; have T3 : Hid True := trivial)
                | (at_builtin; have _ := T3; clear T3; refine wpList_append_strs rfl _ _ rfl wr.heap.size v7 _ _ rfl HO7.out (some ⟨go, j, none⟩) (out.drop j) (co - j) (by rw [HLD.out]; first | rfl | (go_num)) (HSD.out _ HB7.out) HND.out (by rw [HLT.out, HLD.out]; simp only [List.length_cons, List.length_nil]; omega) HB7.out.size ?_; intro v8 w8 hown8 hg8; have HB8 : Hid (Below wr.heap.size wr w8) := HB7.out.grown hg8 HB7.out.size (fun q e => ownBlock_le HO7.out e); have HO8 := hide' hown8; clear hown8 hg8))
              refine ⟨⟨j + 1, out.take j ++ [x] ++ out.drop j, by go_num, by omega, ?_, ?_, ?_, ?_, bstep HB.out HB8.out HB.out.size⟩, by simp [intOf]; omega⟩
              · rw [(perm_insert out x j).length_eq, List.length_cons, hol]
              · exact ord_insert OO.out x j (by omega) LJ.out HEX.out
              · exact (perm_insert out x j).trans ((OP.out.cons x).trans HTK.out.symm)
              · have h9 := ownsRow_mono HO8.out HB.out.size
                have e1 : 0 + (out.take j).length + [x].length + (out.drop j).length = j + 1 := by rw [HLT.out, HLD.out]; simp only [List.length_cons, List.length_nil] <;> omega
                have e2 : [] ++ (out.take j).map Value.string ++ [x].map Value.string ++ (out.drop j).map Value.string = (out.take j ++ [x] ++ out.drop j).map Value.string := by simp
                rw [e1, e2] at h9
                exact h9
    · obtain rfl : k = nl := by omega
      go_wp2_with fail
      go_ret
      have h5 : l.take k = l := List.take_of_length_le (by rw [HNL.out]; exact Nat.le_refl _)
      have h6 := OP.out
      rw [h5] at h6
      exact ⟨_, out, rfl, OW.out, ord_srt OO.out h6, HB.out⟩
end Go.Proofs.YtennkhdhnbdbeaaGreat

/-
  gazetteerref4.IsSet. (The verifier's own text.)
-/
namespace Go.Proofs.YtennkhdhnbdbeaaGreat
set_option linter.unusedVariables false
set_option linter.unusedSimpArgs false
open Go.RowKit Go.Shelf Go.Sort Go.Proofs.YtennkhdhnbdbeaaGreat.Nm

/-- a record's box, and the rows, in memory -/
def Qs (w wc : World) (B : Nat) (rc : Array Value) (p : Option Addr) (L : List Rn) : Prop := Bx wc B rc 27 ∧ RsAt wc p L ∧ Below w.heap.size w wc
theorem Qs.step {w wc wd : World} {B : Nat} {rc : Array Value} {p : Option Addr} {L : List Rn} (h : Qs w wc B rc p L) (hB : Below wc.heap.size wc wd) : Qs w wd B rc p L := ⟨h.1.below hB h.1.lt, rsAt_below7 h.2.1 hB, bstep h.2.2 hB h.2.2.size⟩
theorem Qs.drew {w wc : World} {B : Nat} {rc : Array Value} {p : Option Addr} {L : List Rn} (h : Qs w wc B rc p L) : Qs w wc.drew B rc p L := ⟨h.1, h.2.1, h.2.2.drew⟩
theorem not_good {L : List Rn} (h : ¬ goodL L L.length) : setOK L = false := by
  cases hs : setOK L with
  | false => rfl
  | true => exact absurd ((set_good L).1 hs).2 h
theorem good_succ {L : List Rn} {k : Nat} (hk : k < L.length) (h : goodL L k) (h1 : zonB L[k].o L[k].d L[k].t L[k].c L[k].l = true ∧ L[k].t ≠ 46 ∧ L[k].t = (hdR L).t ∧ eqB L[k].o (hdR L).o = true) (h2 : ∀ j, (hj : j < k) → fdR L[k] ≠ fdR L[j]) : goodL L (k + 1) := by
  intro i hi hik
  rcases Nat.lt_or_ge i k with h3 | h3
  · exact h i hi h3
  · obtain rfl : i = k := by omega
    exact ⟨h1, h2⟩
set_option maxRecDepth 100000 in
set_option maxHeartbeats 8000000 in
/-- gazetteerref4.IsSet -/
theorem refIsSet_any (L : List Rn) (p : Option Addr) (cap : Nat) (w : World) (hL : L.length ≤ 1048576) (hat : RsAt w p L) (hz : ∀ r ∈ L, r.o.size ≤ 1048576 ∧ r.d.size ≤ 9223372036854775807) :
    Calls Tryz.prog 35 #[.slice p L.length cap] w fun r w' => r = .returned (.bool (setOK L)) ∧ Below w.heap.size w w' := by
  obtain ⟨nl, hnl⟩ : ∃ nl, L.length = nl := ⟨_, rfl⟩
  have HAT := hide' hat
  have HSZ := hide' hz
  have HNL := hide' hnl
  rw [hnl] at hL ⊢
  by_cases hn0 : nl = 0
  · subst hn0
    rw [setOK_nil hnl]
    clear hat hz hnl
    go_enter Tryz.func35, Tryz.ntmps35
    go_wp2_with fail
    go_loopw [8] (fun iv wr => iv = .int .i64 0 ∧ wr = w) (fun iv _ => 0)
    case atStart => exact ⟨rfl, rfl⟩
    case round =>
      obtain ⟨rfl, rfl⟩ := hrel
      go_wp2_with fail
      go_ret
      exact ⟨rfl, Below.refl _ _⟩
  have hnp : 0 < nl := by omega
  have hni : (0 : Int) < (nl : Int) := by omega
  obtain ⟨g, off, hp, hgl, -⟩ := hat 0 (by omega)
  subst hp
  clear hat hz hnl
  go_enter Tryz.func35, Tryz.ntmps35
  go_wp2_with fail
  go_loopw [8] (fun iv wr => ∃ k : Nat, iv = .int .i64 (k : Int) ∧ k ≤ nl ∧ Hid (goodL L k) ∧ Hid (Below w.heap.size w wr)) (fun iv _ => nl - (intOf iv).toNat)
  case atStart => exact ⟨0, rfl, Nat.zero_le _, (fun i _ h => absurd h (Nat.not_lt_zero _)), Below.refl _ _⟩
  case round =>
    obtain ⟨k, rfl, hk, GK, HB⟩ := hrel
    by_cases hlt : k < nl
    · have hki : (k : Int) < (nl : Int) := by omega
      have hkl : k < L.length := by rw [HNL.out]; exact hlt
      have h0l : 0 < L.length := by rw [HNL.out]; exact hnp
      have hsx := HSZ.out _ (List.getElem_mem hkl)
      have hs0 := (HSZ.out _ (List.getElem_mem h0l)).1
      have HGD := hide' (fun (h : goodL L L.length) => h k hkl hkl)
      have HGS := hide' (fun a b => good_succ hkl GK.out a b)
      have HAW := hide' (rsAt_below7 HAT.out HB.out)
      obtain ⟨g', off', hpp, _, e0, e1, e2, e3, e4⟩ := HAW.out k hkl
      injection hpp with hpp
      injection hpp with hp1 hp2
      subst hp1
      subst hp2
      have HXX : Hid (L[k]? = some L[k]) := List.getElem?_eq_getElem hkl
      rw [hdR_eq h0l] at hs0
      obtain ⟨x, hx⟩ : ∃ x, L[k] = x := ⟨_, rfl⟩
      obtain ⟨x0, hx0⟩ : ∃ x0, hdR L = x0 := ⟨_, rfl⟩
      have HX0 : Hid (L[0]'h0l = x0) := by unfold Hid; rw [hdR_eq h0l, hx0]
      simp only [hx, hx0] at hsx hs0 HGD HGS e0 e1 e2 e3 e4 HXX
      have HX := hide' hx
      clear hx hx0
      obtain ⟨o, t, c, l, d⟩ := x
      obtain ⟨o0, t0, c0, l0, d0⟩ := x0
      simp only at hsx hs0 HGD HGS e0 e1 e2 e3 e4
      have HZ := hide' (fun W => zonal_any o d t c l W hsx.1 hsx.2)
      have HQ := hide' (fun W => equalName_any o o0 W hsx.1 hs0)
      go_wp2_with fail
      obtain ⟨B, hB⟩ : ∃ B, wr.heap.size = B := ⟨_, rfl⟩
      obtain ⟨W0, hW0⟩ : ∃ W0, wr.alloc (.cells #[.string o, .int .i64 t, .int .i64 c, .int .i64 l, .string d] 27) = W0 := ⟨_, rfl⟩
      have Q0 : Hid (Qs w W0 B #[.string o, .int .i64 t, .int .i64 c, .int .i64 l, .string d] (some ⟨g, off, none⟩) L) := by
        rw [← hW0, ← hB]
        have hb : Below wr.heap.size wr (wr.alloc (.cells #[.string o, .int .i64 t, .int .i64 c, .int .i64 l, .string d] 27)) := (Below.refl _ _).alloc (Nat.le_refl _) _
        exact ⟨World.alloc_heap_new wr _, rsAt_below7 HAW.out hb, bstep HB.out hb HB.out.size⟩
      simp only [hW0, hB]
      have QF : Hid (∀ V : World, Qs w V B #[.string o, .int .i64 t, .int .i64 c, .int .i64 l, .string d] (some ⟨g, off, none⟩) L → V.cell? ⟨B, 0, none⟩ = some (.string o) ∧ V.cell? ⟨B, 1, none⟩ = some (.int .i64 t) ∧ V.cell? ⟨B, 2, none⟩ = some (.int .i64 c) ∧ V.cell? ⟨B, 3, none⟩ = some (.int .i64 l) ∧ V.cell? ⟨B, 4, none⟩ = some (.string d) ∧ V.cell? ⟨g, off, none⟩ = some (.string o0) ∧ V.cell? ⟨g, off + 1, none⟩ = some (.int .i64 t0)) := fun V h => by
        obtain ⟨g', off', hpp, _, u0, u1, -⟩ := h.2.1 0 (by rw [HNL.out]; exact hnp)
        injection hpp with hpp
        injection hpp with hp1 hp2
        subst hp1
        subst hp2
        rw [Nat.zero_mul, Nat.add_zero, HX0.out] at u0 u1
        exact ⟨h.1.cell rfl, h.1.cell rfl, h.1.cell rfl, h.1.cell rfl, h.1.cell rfl, u0, u1⟩
      clear e0 e1 e2 e3 e4 hW0 hB HB HAW hsx hs0
      obtain ⟨b0, b1, b2, b3, b4, a0, a1⟩ := QF.out _ Q0.out
      cases hzz : zonB o d t c l with
      | false =>
        have HBAD : Hid (setOK L = false) := not_good (fun h => by have := (HGD.out h).1.1; rw [hzz] at this; cases this)
        rw [hzz] at HZ
        clear hzz
        refine wp_region_held_drew (S := fun V => V.cell? ⟨B, 0, none⟩ = some (.string o) ∧ V.cell? ⟨B, 1, none⟩ = some (.int .i64 t) ∧ V.cell? ⟨B, 2, none⟩ = some (.int .i64 c) ∧ V.cell? ⟨B, 3, none⟩ = some (.int .i64 l) ∧ V.cell? ⟨B, 4, none⟩ = some (.string d) ∧ V.cell? ⟨g, off, none⟩ = some (.string o0) ∧ V.cell? ⟨g, off + 1, none⟩ = some (.int .i64 t0)) (by kernel_rfl) ?_ (fun hHeld => ?_)
        · (try dsimp only); go_keep
        refine takeD 0 (some 13) (.agg #[.string o, .int .i64 t, .int .i64 c, .int .i64 l, .string d]) rfl rfl (by kernel_rfl) (by kernel_rfl) (by kernel_rfl) (fun _ _ _ h => h) (Or.inl ⟨by rfl, ?_⟩) (by assumption) ?_
        · intro w hSw; (try dsimp only at hSw); go_simp <;> (intros; omega)
        simp only [Act.put, List.setIfInBounds_toArray, List.set_cons_zero, List.set_cons_succ]
        refine wpAnyH_ready (rs := [1]) (by kernel_rfl) (by simp) ?_
        refine AllReadyH.cons rfl (fun K hK => ?_) AllReadyH.nil
        go_simp
        go_at_call 51; refine (HZ.out _).mono ?_; rintro r w1 ⟨rfl, hB⟩; have Q1 := hide' (show Qs w w1 B #[.string o, .int .i64 t, .int .i64 c, .int .i64 l, .string d] (some ⟨g, off, none⟩) L by first | exact Q0.out.step hB | exact Q0.out.drew.step hB); clear hB
        go_wp2_with fail
        refine hK.out _ _ (QF.out _ Q1.out) (fun hHeld => ?_)
        clear hK K
        try simp only [Act.put, List.setIfInBounds_toArray, List.set_cons_zero, List.set_cons_succ]
        refine takeD 2 (some 15) (.bool true) rfl rfl (by kernel_rfl) (by kernel_rfl) (by kernel_rfl) (fun _ _ _ h => h) (Or.inl ⟨by rfl, ?_⟩) (by assumption) ?_
        · intro w hSw; (try dsimp only at hSw); go_simp <;> (intros; omega)
        simp only [Act.put, List.setIfInBounds_toArray, List.set_cons_zero, List.set_cons_succ]
        refine takeD 3 (some 16) (.bool true) rfl rfl (by kernel_rfl) (by kernel_rfl) (by kernel_rfl) (fun _ _ _ h => h) (Or.inl ⟨by rfl, ?_⟩) (by assumption) ?_
        · intro w hSw; (try dsimp only at hSw); go_simp <;> (intros; omega)
        simp only [Act.put, List.setIfInBounds_toArray, List.set_cons_zero, List.set_cons_succ]
        refine takeD 4 (some 17) undef rfl rfl (by kernel_rfl) (by kernel_rfl) (by kernel_rfl) (fun _ _ _ h => h) (Or.inr ⟨by rfl, rfl⟩) (by assumption) ?_
        simp only [Act.put, List.setIfInBounds_toArray, List.set_cons_zero, List.set_cons_succ]
        refine takeD 5 (some 18) undef rfl rfl (by kernel_rfl) (by kernel_rfl) (by kernel_rfl) (fun _ _ _ h => h) (Or.inr ⟨by rfl, rfl⟩) (by assumption) ?_
        simp only [Act.put, List.setIfInBounds_toArray, List.set_cons_zero, List.set_cons_succ]
        refine takeD 6 (some 19) undef rfl rfl (by kernel_rfl) (by kernel_rfl) (by kernel_rfl) (fun _ _ _ h => h) (Or.inr ⟨by rfl, rfl⟩) (by assumption) ?_
        simp only [Act.put, List.setIfInBounds_toArray, List.set_cons_zero, List.set_cons_succ]
        refine takeD 7 (some 20) (.bool true) rfl rfl (by kernel_rfl) (by kernel_rfl) (by kernel_rfl) (fun _ _ _ h => h) (Or.inl ⟨by rfl, ?_⟩) (by assumption) ?_
        · intro w hSw; (try dsimp only at hSw); go_simp <;> (intros; omega)
        simp only [Act.put, List.setIfInBounds_toArray, List.set_cons_zero, List.set_cons_succ]
        refine takeD 8 (some 21) (.bool true) rfl rfl (by kernel_rfl) (by kernel_rfl) (by kernel_rfl) (fun _ _ _ h => h) (Or.inl ⟨by rfl, ?_⟩) (by assumption) ?_
        · intro w hSw; (try dsimp only at hSw); go_simp <;> (intros; omega)
        simp only [Act.put, List.setIfInBounds_toArray, List.set_cons_zero, List.set_cons_succ]
        refine takeD 9 (some 22) undef rfl rfl (by kernel_rfl) (by kernel_rfl) (by kernel_rfl) (fun _ _ _ h => h) (Or.inr ⟨by rfl, rfl⟩) (by assumption) ?_
        simp only [Act.put, List.setIfInBounds_toArray, List.set_cons_zero, List.set_cons_succ]
        refine takeD 10 (some 23) undef rfl rfl (by kernel_rfl) (by kernel_rfl) (by kernel_rfl) (fun _ _ _ h => h) (Or.inr ⟨by rfl, rfl⟩) (by assumption) ?_
        simp only [Act.put, List.setIfInBounds_toArray, List.set_cons_zero, List.set_cons_succ]
        refine takeD 11 (some 24) undef rfl rfl (by kernel_rfl) (by kernel_rfl) (by kernel_rfl) (fun _ _ _ h => h) (Or.inr ⟨by rfl, rfl⟩) (by assumption) ?_
        simp only [Act.put, List.setIfInBounds_toArray, List.set_cons_zero, List.set_cons_succ]
        refine takeD 12 (some 25) undef rfl rfl (by kernel_rfl) (by kernel_rfl) (by kernel_rfl) (fun _ _ _ h => h) (Or.inr ⟨by rfl, rfl⟩) (by assumption) ?_
        simp only [Act.put, List.setIfInBounds_toArray, List.set_cons_zero, List.set_cons_succ]
        refine takeD 13 (some 26) undef rfl rfl (by kernel_rfl) (by kernel_rfl) (by kernel_rfl) (fun _ _ _ h => h) (Or.inr ⟨by rfl, rfl⟩) (by assumption) ?_
        simp only [Act.put, List.setIfInBounds_toArray, List.set_cons_zero, List.set_cons_succ]
        refine takeD 14 (some 27) undef rfl rfl (by kernel_rfl) (by kernel_rfl) (by kernel_rfl) (fun _ _ _ h => h) (Or.inr ⟨by rfl, rfl⟩) (by assumption) ?_
        simp only [Act.put, List.setIfInBounds_toArray, List.set_cons_zero, List.set_cons_succ]
        refine takeD 15 (some 28) undef rfl rfl (by kernel_rfl) (by kernel_rfl) (by kernel_rfl) (fun _ _ _ h => h) (Or.inr ⟨by rfl, rfl⟩) (by assumption) ?_
        simp only [Act.put, List.setIfInBounds_toArray, List.set_cons_zero, List.set_cons_succ]
        refine takeD 16 (some 29) (.bool true) rfl rfl (by kernel_rfl) (by kernel_rfl) (by kernel_rfl) (fun _ _ _ h => h) (Or.inl ⟨by rfl, ?_⟩) (by assumption) ?_
        · intro w hSw; (try dsimp only at hSw); go_simp <;> (intros; omega)
        simp only [Act.put, List.setIfInBounds_toArray, List.set_cons_zero, List.set_cons_succ]
        refine takeD 17 (some 30) (.bool true) rfl rfl (by kernel_rfl) (by kernel_rfl) (by kernel_rfl) (fun _ _ _ h => h) (Or.inl ⟨by rfl, ?_⟩) (by assumption) ?_
        · intro w hSw; (try dsimp only at hSw); go_simp <;> (intros; omega)
        simp only [Act.put, List.setIfInBounds_toArray, List.set_cons_zero, List.set_cons_succ]
        refine takeD 18 (some 31) undef rfl rfl (by kernel_rfl) (by kernel_rfl) (by kernel_rfl) (fun _ _ _ h => h) (Or.inr ⟨by rfl, rfl⟩) (by assumption) ?_
        simp only [Act.put, List.setIfInBounds_toArray, List.set_cons_zero, List.set_cons_succ]
        refine takeD 19 (some 32) undef rfl rfl (by kernel_rfl) (by kernel_rfl) (by kernel_rfl) (fun _ _ _ h => h) (Or.inr ⟨by rfl, rfl⟩) (by assumption) ?_
        simp only [Act.put, List.setIfInBounds_toArray, List.set_cons_zero, List.set_cons_succ]
        refine takeD 20 (some 33) undef rfl rfl (by kernel_rfl) (by kernel_rfl) (by kernel_rfl) (fun _ _ _ h => h) (Or.inr ⟨by rfl, rfl⟩) (by assumption) ?_
        simp only [Act.put, List.setIfInBounds_toArray, List.set_cons_zero, List.set_cons_succ]
        refine takeD 21 (some 34) undef rfl rfl (by kernel_rfl) (by kernel_rfl) (by kernel_rfl) (fun _ _ _ h => h) (Or.inr ⟨by rfl, rfl⟩) (by assumption) ?_
        simp only [Act.put, List.setIfInBounds_toArray, List.set_cons_zero, List.set_cons_succ]
        refine takeD 22 (some 35) undef rfl rfl (by kernel_rfl) (by kernel_rfl) (by kernel_rfl) (fun _ _ _ h => h) (Or.inr ⟨by rfl, rfl⟩) (by assumption) ?_
        simp only [Act.put, List.setIfInBounds_toArray, List.set_cons_zero, List.set_cons_succ]
        refine takeD 23 (some 36) undef rfl rfl (by kernel_rfl) (by kernel_rfl) (by kernel_rfl) (fun _ _ _ h => h) (Or.inr ⟨by rfl, rfl⟩) (by assumption) ?_
        simp only [Act.put, List.setIfInBounds_toArray, List.set_cons_zero, List.set_cons_succ]
        refine takeD 24 (some 37) undef rfl rfl (by kernel_rfl) (by kernel_rfl) (by kernel_rfl) (fun _ _ _ h => h) (Or.inr ⟨by rfl, rfl⟩) (by assumption) ?_
        simp only [Act.put, List.setIfInBounds_toArray, List.set_cons_zero, List.set_cons_succ]
        refine takeD 25 (some 38) undef rfl rfl (by kernel_rfl) (by kernel_rfl) (by kernel_rfl) (fun _ _ _ h => h) (Or.inr ⟨by rfl, rfl⟩) (by assumption) ?_
        simp only [Act.put, List.setIfInBounds_toArray, List.set_cons_zero, List.set_cons_succ]
        refine takeD 26 (some 39) (.bool true) rfl rfl (by kernel_rfl) (by kernel_rfl) (by kernel_rfl) (fun _ _ _ h => h) (Or.inl ⟨by rfl, ?_⟩) (by assumption) ?_
        · intro w hSw; (try dsimp only at hSw); go_simp <;> (intros; omega)
        simp only [Act.put, List.setIfInBounds_toArray, List.set_cons_zero, List.set_cons_succ]
        refine wpAnyH_done (by kernel_rfl) ?_ _
        go_wp2_with fail
        go_ret
        exact ⟨by rw [HBAD.out]; try rfl, by first | exact Q1.out.2.2 | exact Q1.out.2.2.drew⟩
      | true =>
        rw [hzz] at HZ
        by_cases h46 : t = 46
        · have HBAD : Hid (setOK L = false) := not_good (fun h => (HGD.out h).1.2.1 h46)
          have h46b : (t == 46) = true := by rw [h46]; rfl
          have h46c : ((t : Int) = 46) = True := by rw [h46]; simp
          clear hzz h46 h46c
          refine wp_region_held_drew (S := fun V => V.cell? ⟨B, 0, none⟩ = some (.string o) ∧ V.cell? ⟨B, 1, none⟩ = some (.int .i64 t) ∧ V.cell? ⟨B, 2, none⟩ = some (.int .i64 c) ∧ V.cell? ⟨B, 3, none⟩ = some (.int .i64 l) ∧ V.cell? ⟨B, 4, none⟩ = some (.string d) ∧ V.cell? ⟨g, off, none⟩ = some (.string o0) ∧ V.cell? ⟨g, off + 1, none⟩ = some (.int .i64 t0)) (by kernel_rfl) ?_ (fun hHeld => ?_)
          · (try dsimp only); go_keep
          refine takeD 0 (some 13) (.agg #[.string o, .int .i64 t, .int .i64 c, .int .i64 l, .string d]) rfl rfl (by kernel_rfl) (by kernel_rfl) (by kernel_rfl) (fun _ _ _ h => h) (Or.inl ⟨by rfl, ?_⟩) (by assumption) ?_
          · intro w hSw; (try dsimp only at hSw); go_simp <;> (intros; omega)
          simp only [Act.put, List.setIfInBounds_toArray, List.set_cons_zero, List.set_cons_succ]
          refine wpAnyH_ready (rs := [1]) (by kernel_rfl) (by simp) ?_
          refine AllReadyH.cons rfl (fun K hK => ?_) AllReadyH.nil
          go_simp
          go_at_call 51; refine (HZ.out _).mono ?_; rintro r w1 ⟨rfl, hB⟩; have Q1 := hide' (show Qs w w1 B #[.string o, .int .i64 t, .int .i64 c, .int .i64 l, .string d] (some ⟨g, off, none⟩) L by first | exact Q0.out.step hB | exact Q0.out.drew.step hB); clear hB
          go_wp2_with fail
          refine hK.out _ _ (QF.out _ Q1.out) (fun hHeld => ?_)
          clear hK K
          try simp only [Act.put, List.setIfInBounds_toArray, List.set_cons_zero, List.set_cons_succ]
          refine takeD 2 (some 15) (.bool false) rfl rfl (by kernel_rfl) (by kernel_rfl) (by kernel_rfl) (fun _ _ _ h => h) (Or.inl ⟨by rfl, ?_⟩) (by assumption) ?_
          · intro w hSw; (try dsimp only at hSw); go_simp <;> (intros; omega)
          simp only [Act.put, List.setIfInBounds_toArray, List.set_cons_zero, List.set_cons_succ]
          refine takeD 3 (some 16) (.bool false) rfl rfl (by kernel_rfl) (by kernel_rfl) (by kernel_rfl) (fun _ _ _ h => h) (Or.inl ⟨by rfl, ?_⟩) (by assumption) ?_
          · intro w hSw; (try dsimp only at hSw); go_simp <;> (intros; omega)
          simp only [Act.put, List.setIfInBounds_toArray, List.set_cons_zero, List.set_cons_succ]
          refine takeD 4 (some 17) (.pointer (some ⟨B, 1, none⟩)) rfl rfl (by kernel_rfl) (by kernel_rfl) (by kernel_rfl) (fun _ _ _ h => h) (Or.inl ⟨by rfl, ?_⟩) (by assumption) ?_
          · intro w hSw; (try dsimp only at hSw); go_simp <;> (intros; omega)
          simp only [Act.put, List.setIfInBounds_toArray, List.set_cons_zero, List.set_cons_succ]
          refine takeD 5 (some 18) (.int .i64 t) rfl rfl (by kernel_rfl) (by kernel_rfl) (by kernel_rfl) (fun _ _ _ h => h) (Or.inl ⟨by rfl, ?_⟩) (by assumption) ?_
          · intro w hSw; (try dsimp only at hSw); go_simp <;> (intros; omega)
          simp only [Act.put, List.setIfInBounds_toArray, List.set_cons_zero, List.set_cons_succ]
          refine takeD 6 (some 19) (.bool true) rfl rfl (by kernel_rfl) (by kernel_rfl) (by kernel_rfl) (fun _ _ _ h => h) (Or.inl ⟨by rfl, ?_⟩) (by assumption) ?_
          · intro w hSw; (try dsimp only at hSw); go_simp <;> (intros; omega)
          simp only [Act.put, List.setIfInBounds_toArray, List.set_cons_zero, List.set_cons_succ]
          refine takeD 7 (some 20) (.bool true) rfl rfl (by kernel_rfl) (by kernel_rfl) (by kernel_rfl) (fun _ _ _ h => h) (Or.inl ⟨by rfl, ?_⟩) (by assumption) ?_
          · intro w hSw; (try dsimp only at hSw); go_simp <;> (intros; omega)
          simp only [Act.put, List.setIfInBounds_toArray, List.set_cons_zero, List.set_cons_succ]
          refine takeD 8 (some 21) (.bool true) rfl rfl (by kernel_rfl) (by kernel_rfl) (by kernel_rfl) (fun _ _ _ h => h) (Or.inl ⟨by rfl, ?_⟩) (by assumption) ?_
          · intro w hSw; (try dsimp only at hSw); go_simp <;> (intros; omega)
          simp only [Act.put, List.setIfInBounds_toArray, List.set_cons_zero, List.set_cons_succ]
          refine takeD 9 (some 22) undef rfl rfl (by kernel_rfl) (by kernel_rfl) (by kernel_rfl) (fun _ _ _ h => h) (Or.inr ⟨by rfl, rfl⟩) (by assumption) ?_
          simp only [Act.put, List.setIfInBounds_toArray, List.set_cons_zero, List.set_cons_succ]
          refine takeD 10 (some 23) undef rfl rfl (by kernel_rfl) (by kernel_rfl) (by kernel_rfl) (fun _ _ _ h => h) (Or.inr ⟨by rfl, rfl⟩) (by assumption) ?_
          simp only [Act.put, List.setIfInBounds_toArray, List.set_cons_zero, List.set_cons_succ]
          refine takeD 11 (some 24) undef rfl rfl (by kernel_rfl) (by kernel_rfl) (by kernel_rfl) (fun _ _ _ h => h) (Or.inr ⟨by rfl, rfl⟩) (by assumption) ?_
          simp only [Act.put, List.setIfInBounds_toArray, List.set_cons_zero, List.set_cons_succ]
          refine takeD 12 (some 25) undef rfl rfl (by kernel_rfl) (by kernel_rfl) (by kernel_rfl) (fun _ _ _ h => h) (Or.inr ⟨by rfl, rfl⟩) (by assumption) ?_
          simp only [Act.put, List.setIfInBounds_toArray, List.set_cons_zero, List.set_cons_succ]
          refine takeD 13 (some 26) undef rfl rfl (by kernel_rfl) (by kernel_rfl) (by kernel_rfl) (fun _ _ _ h => h) (Or.inr ⟨by rfl, rfl⟩) (by assumption) ?_
          simp only [Act.put, List.setIfInBounds_toArray, List.set_cons_zero, List.set_cons_succ]
          refine takeD 14 (some 27) undef rfl rfl (by kernel_rfl) (by kernel_rfl) (by kernel_rfl) (fun _ _ _ h => h) (Or.inr ⟨by rfl, rfl⟩) (by assumption) ?_
          simp only [Act.put, List.setIfInBounds_toArray, List.set_cons_zero, List.set_cons_succ]
          refine takeD 15 (some 28) undef rfl rfl (by kernel_rfl) (by kernel_rfl) (by kernel_rfl) (fun _ _ _ h => h) (Or.inr ⟨by rfl, rfl⟩) (by assumption) ?_
          simp only [Act.put, List.setIfInBounds_toArray, List.set_cons_zero, List.set_cons_succ]
          refine takeD 16 (some 29) (.bool true) rfl rfl (by kernel_rfl) (by kernel_rfl) (by kernel_rfl) (fun _ _ _ h => h) (Or.inl ⟨by rfl, ?_⟩) (by assumption) ?_
          · intro w hSw; (try dsimp only at hSw); go_simp <;> (intros; omega)
          simp only [Act.put, List.setIfInBounds_toArray, List.set_cons_zero, List.set_cons_succ]
          refine takeD 17 (some 30) (.bool true) rfl rfl (by kernel_rfl) (by kernel_rfl) (by kernel_rfl) (fun _ _ _ h => h) (Or.inl ⟨by rfl, ?_⟩) (by assumption) ?_
          · intro w hSw; (try dsimp only at hSw); go_simp <;> (intros; omega)
          simp only [Act.put, List.setIfInBounds_toArray, List.set_cons_zero, List.set_cons_succ]
          refine takeD 18 (some 31) undef rfl rfl (by kernel_rfl) (by kernel_rfl) (by kernel_rfl) (fun _ _ _ h => h) (Or.inr ⟨by rfl, rfl⟩) (by assumption) ?_
          simp only [Act.put, List.setIfInBounds_toArray, List.set_cons_zero, List.set_cons_succ]
          refine takeD 19 (some 32) undef rfl rfl (by kernel_rfl) (by kernel_rfl) (by kernel_rfl) (fun _ _ _ h => h) (Or.inr ⟨by rfl, rfl⟩) (by assumption) ?_
          simp only [Act.put, List.setIfInBounds_toArray, List.set_cons_zero, List.set_cons_succ]
          refine takeD 20 (some 33) undef rfl rfl (by kernel_rfl) (by kernel_rfl) (by kernel_rfl) (fun _ _ _ h => h) (Or.inr ⟨by rfl, rfl⟩) (by assumption) ?_
          simp only [Act.put, List.setIfInBounds_toArray, List.set_cons_zero, List.set_cons_succ]
          refine takeD 21 (some 34) undef rfl rfl (by kernel_rfl) (by kernel_rfl) (by kernel_rfl) (fun _ _ _ h => h) (Or.inr ⟨by rfl, rfl⟩) (by assumption) ?_
          simp only [Act.put, List.setIfInBounds_toArray, List.set_cons_zero, List.set_cons_succ]
          refine takeD 22 (some 35) undef rfl rfl (by kernel_rfl) (by kernel_rfl) (by kernel_rfl) (fun _ _ _ h => h) (Or.inr ⟨by rfl, rfl⟩) (by assumption) ?_
          simp only [Act.put, List.setIfInBounds_toArray, List.set_cons_zero, List.set_cons_succ]
          refine takeD 23 (some 36) undef rfl rfl (by kernel_rfl) (by kernel_rfl) (by kernel_rfl) (fun _ _ _ h => h) (Or.inr ⟨by rfl, rfl⟩) (by assumption) ?_
          simp only [Act.put, List.setIfInBounds_toArray, List.set_cons_zero, List.set_cons_succ]
          refine takeD 24 (some 37) undef rfl rfl (by kernel_rfl) (by kernel_rfl) (by kernel_rfl) (fun _ _ _ h => h) (Or.inr ⟨by rfl, rfl⟩) (by assumption) ?_
          simp only [Act.put, List.setIfInBounds_toArray, List.set_cons_zero, List.set_cons_succ]
          refine takeD 25 (some 38) undef rfl rfl (by kernel_rfl) (by kernel_rfl) (by kernel_rfl) (fun _ _ _ h => h) (Or.inr ⟨by rfl, rfl⟩) (by assumption) ?_
          simp only [Act.put, List.setIfInBounds_toArray, List.set_cons_zero, List.set_cons_succ]
          refine takeD 26 (some 39) (.bool true) rfl rfl (by kernel_rfl) (by kernel_rfl) (by kernel_rfl) (fun _ _ _ h => h) (Or.inl ⟨by rfl, ?_⟩) (by assumption) ?_
          · intro w hSw; (try dsimp only at hSw); go_simp <;> (intros; omega)
          simp only [Act.put, List.setIfInBounds_toArray, List.set_cons_zero, List.set_cons_succ]
          refine wpAnyH_done (by kernel_rfl) ?_ _
          go_wp2_with fail
          go_ret
          exact ⟨by rw [HBAD.out]; try rfl, by first | exact Q1.out.2.2 | exact Q1.out.2.2.drew⟩
        by_cases htt : t = t0
        · subst htt
          cases hqq : eqB o o0 with
          | false =>
            have HBAD : Hid (setOK L = false) := not_good (fun h => by have := (HGD.out h).1.2.2.2; rw [hqq] at this; cases this)
            rw [hqq] at HQ
            clear hqq hzz
            refine wp_region_held_drew (S := fun V => V.cell? ⟨B, 0, none⟩ = some (.string o) ∧ V.cell? ⟨B, 1, none⟩ = some (.int .i64 t) ∧ V.cell? ⟨B, 2, none⟩ = some (.int .i64 c) ∧ V.cell? ⟨B, 3, none⟩ = some (.int .i64 l) ∧ V.cell? ⟨B, 4, none⟩ = some (.string d) ∧ V.cell? ⟨g, off, none⟩ = some (.string o0) ∧ V.cell? ⟨g, off + 1, none⟩ = some (.int .i64 t)) (by kernel_rfl) ?_ (fun hHeld => ?_)
            · (try dsimp only); go_keep
            refine takeD 0 (some 13) (.agg #[.string o, .int .i64 t, .int .i64 c, .int .i64 l, .string d]) rfl rfl (by kernel_rfl) (by kernel_rfl) (by kernel_rfl) (fun _ _ _ h => h) (Or.inl ⟨by rfl, ?_⟩) (by assumption) ?_
            · intro w hSw; (try dsimp only at hSw); go_simp <;> (intros; omega)
            simp only [Act.put, List.setIfInBounds_toArray, List.set_cons_zero, List.set_cons_succ]
            refine wpAnyH_ready (rs := [1]) (by kernel_rfl) (by simp) ?_
            refine AllReadyH.cons rfl (fun K hK => ?_) AllReadyH.nil
            go_simp
            go_at_call 51; refine (HZ.out _).mono ?_; rintro r w1 ⟨rfl, hB⟩; have Q1 := hide' (show Qs w w1 B #[.string o, .int .i64 t, .int .i64 c, .int .i64 l, .string d] (some ⟨g, off, none⟩) L by first | exact Q0.out.step hB | exact Q0.out.drew.step hB); clear hB
            go_wp2_with fail
            refine hK.out _ _ (QF.out _ Q1.out) (fun hHeld => ?_)
            clear hK K
            try simp only [Act.put, List.setIfInBounds_toArray, List.set_cons_zero, List.set_cons_succ]
            refine takeD 2 (some 15) (.bool false) rfl rfl (by kernel_rfl) (by kernel_rfl) (by kernel_rfl) (fun _ _ _ h => h) (Or.inl ⟨by rfl, ?_⟩) (by assumption) ?_
            · intro w hSw; (try dsimp only at hSw); go_simp <;> (intros; omega)
            simp only [Act.put, List.setIfInBounds_toArray, List.set_cons_zero, List.set_cons_succ]
            refine takeD 3 (some 16) (.bool false) rfl rfl (by kernel_rfl) (by kernel_rfl) (by kernel_rfl) (fun _ _ _ h => h) (Or.inl ⟨by rfl, ?_⟩) (by assumption) ?_
            · intro w hSw; (try dsimp only at hSw); go_simp <;> (intros; omega)
            simp only [Act.put, List.setIfInBounds_toArray, List.set_cons_zero, List.set_cons_succ]
            refine takeD 4 (some 17) (.pointer (some ⟨B, 1, none⟩)) rfl rfl (by kernel_rfl) (by kernel_rfl) (by kernel_rfl) (fun _ _ _ h => h) (Or.inl ⟨by rfl, ?_⟩) (by assumption) ?_
            · intro w hSw; (try dsimp only at hSw); go_simp <;> (intros; omega)
            simp only [Act.put, List.setIfInBounds_toArray, List.set_cons_zero, List.set_cons_succ]
            refine takeD 5 (some 18) (.int .i64 t) rfl rfl (by kernel_rfl) (by kernel_rfl) (by kernel_rfl) (fun _ _ _ h => h) (Or.inl ⟨by rfl, ?_⟩) (by assumption) ?_
            · intro w hSw; (try dsimp only at hSw); go_simp <;> (intros; omega)
            simp only [Act.put, List.setIfInBounds_toArray, List.set_cons_zero, List.set_cons_succ]
            refine takeD 6 (some 19) (.bool false) rfl rfl (by kernel_rfl) (by kernel_rfl) (by kernel_rfl) (fun _ _ _ h => h) (Or.inl ⟨by rfl, ?_⟩) (by assumption) ?_
            · intro w hSw; (try dsimp only at hSw); go_simp <;> (intros; omega)
            simp only [Act.put, List.setIfInBounds_toArray, List.set_cons_zero, List.set_cons_succ]
            refine takeD 7 (some 20) (.bool false) rfl rfl (by kernel_rfl) (by kernel_rfl) (by kernel_rfl) (fun _ _ _ h => h) (Or.inl ⟨by rfl, ?_⟩) (by assumption) ?_
            · intro w hSw; (try dsimp only at hSw); go_simp <;> (intros; omega)
            simp only [Act.put, List.setIfInBounds_toArray, List.set_cons_zero, List.set_cons_succ]
            refine takeD 8 (some 21) (.bool false) rfl rfl (by kernel_rfl) (by kernel_rfl) (by kernel_rfl) (fun _ _ _ h => h) (Or.inl ⟨by rfl, ?_⟩) (by assumption) ?_
            · intro w hSw; (try dsimp only at hSw); go_simp <;> (intros; omega)
            simp only [Act.put, List.setIfInBounds_toArray, List.set_cons_zero, List.set_cons_succ]
            refine takeD 9 (some 22) (.pointer (some ⟨B, 1, none⟩)) rfl rfl (by kernel_rfl) (by kernel_rfl) (by kernel_rfl) (fun _ _ _ h => h) (Or.inl ⟨by rfl, ?_⟩) (by assumption) ?_
            · intro w hSw; (try dsimp only at hSw); go_simp <;> (intros; omega)
            simp only [Act.put, List.setIfInBounds_toArray, List.set_cons_zero, List.set_cons_succ]
            refine takeD 10 (some 23) (.int .i64 t) rfl rfl (by kernel_rfl) (by kernel_rfl) (by kernel_rfl) (fun _ _ _ h => h) (Or.inl ⟨by rfl, ?_⟩) (by assumption) ?_
            · intro w hSw; (try dsimp only at hSw); go_simp <;> (intros; omega)
            simp only [Act.put, List.setIfInBounds_toArray, List.set_cons_zero, List.set_cons_succ]
            refine takeD 11 (some 24) (.slice (some ⟨g, off, none⟩) nl cap) rfl rfl (by kernel_rfl) (by kernel_rfl) (by kernel_rfl) (fun _ _ _ h => h) (Or.inl ⟨by rfl, ?_⟩) (by assumption) ?_
            · intro w hSw; (try dsimp only at hSw); go_simp <;> (intros; omega)
            simp only [Act.put, List.setIfInBounds_toArray, List.set_cons_zero, List.set_cons_succ]
            refine takeD 12 (some 25) (.pointer (some ⟨g, off, none⟩)) rfl rfl (by kernel_rfl) (by kernel_rfl) (by kernel_rfl) (fun _ _ _ h => h) (Or.inl ⟨by rfl, ?_⟩) (by assumption) ?_
            · intro w hSw; (try dsimp only at hSw); go_simp <;> (intros; omega)
            simp only [Act.put, List.setIfInBounds_toArray, List.set_cons_zero, List.set_cons_succ]
            refine takeD 13 (some 26) (.pointer (some ⟨g, off + 1, none⟩)) rfl rfl (by kernel_rfl) (by kernel_rfl) (by kernel_rfl) (fun _ _ _ h => h) (Or.inl ⟨by rfl, ?_⟩) (by assumption) ?_
            · intro w hSw; (try dsimp only at hSw); go_simp <;> (intros; omega)
            simp only [Act.put, List.setIfInBounds_toArray, List.set_cons_zero, List.set_cons_succ]
            refine takeD 14 (some 27) (.int .i64 t) rfl rfl (by kernel_rfl) (by kernel_rfl) (by kernel_rfl) (fun _ _ _ h => h) (Or.inl ⟨by rfl, ?_⟩) (by assumption) ?_
            · intro w hSw; (try dsimp only at hSw); go_simp <;> (intros; omega)
            simp only [Act.put, List.setIfInBounds_toArray, List.set_cons_zero, List.set_cons_succ]
            refine takeD 15 (some 28) (.bool false) rfl rfl (by kernel_rfl) (by kernel_rfl) (by kernel_rfl) (fun _ _ _ h => h) (Or.inl ⟨by rfl, ?_⟩) (by assumption) ?_
            · intro w hSw; (try dsimp only at hSw); go_simp <;> (intros; omega)
            simp only [Act.put, List.setIfInBounds_toArray, List.set_cons_zero, List.set_cons_succ]
            refine takeD 16 (some 29) (.bool false) rfl rfl (by kernel_rfl) (by kernel_rfl) (by kernel_rfl) (fun _ _ _ h => h) (Or.inl ⟨by rfl, ?_⟩) (by assumption) ?_
            · intro w hSw; (try dsimp only at hSw); go_simp <;> (intros; omega)
            simp only [Act.put, List.setIfInBounds_toArray, List.set_cons_zero, List.set_cons_succ]
            refine takeD 17 (some 30) (.bool false) rfl rfl (by kernel_rfl) (by kernel_rfl) (by kernel_rfl) (fun _ _ _ h => h) (Or.inl ⟨by rfl, ?_⟩) (by assumption) ?_
            · intro w hSw; (try dsimp only at hSw); go_simp <;> (intros; omega)
            simp only [Act.put, List.setIfInBounds_toArray, List.set_cons_zero, List.set_cons_succ]
            refine takeD 18 (some 31) (.pointer (some ⟨B, 0, none⟩)) rfl rfl (by kernel_rfl) (by kernel_rfl) (by kernel_rfl) (fun _ _ _ h => h) (Or.inl ⟨by rfl, ?_⟩) (by assumption) ?_
            · intro w hSw; (try dsimp only at hSw); go_simp <;> (intros; omega)
            simp only [Act.put, List.setIfInBounds_toArray, List.set_cons_zero, List.set_cons_succ]
            refine takeD 19 (some 32) (.string o) rfl rfl (by kernel_rfl) (by kernel_rfl) (by kernel_rfl) (fun _ _ _ h => h) (Or.inl ⟨by rfl, ?_⟩) (by assumption) ?_
            · intro w hSw; (try dsimp only at hSw); go_simp <;> (intros; omega)
            simp only [Act.put, List.setIfInBounds_toArray, List.set_cons_zero, List.set_cons_succ]
            refine takeD 20 (some 33) (.slice (some ⟨g, off, none⟩) nl cap) rfl rfl (by kernel_rfl) (by kernel_rfl) (by kernel_rfl) (fun _ _ _ h => h) (Or.inl ⟨by rfl, ?_⟩) (by assumption) ?_
            · intro w hSw; (try dsimp only at hSw); go_simp <;> (intros; omega)
            simp only [Act.put, List.setIfInBounds_toArray, List.set_cons_zero, List.set_cons_succ]
            refine takeD 21 (some 34) (.pointer (some ⟨g, off, none⟩)) rfl rfl (by kernel_rfl) (by kernel_rfl) (by kernel_rfl) (fun _ _ _ h => h) (Or.inl ⟨by rfl, ?_⟩) (by assumption) ?_
            · intro w hSw; (try dsimp only at hSw); go_simp <;> (intros; omega)
            simp only [Act.put, List.setIfInBounds_toArray, List.set_cons_zero, List.set_cons_succ]
            refine takeD 22 (some 35) (.pointer (some ⟨g, off, none⟩)) rfl rfl (by kernel_rfl) (by kernel_rfl) (by kernel_rfl) (fun _ _ _ h => h) (Or.inl ⟨by rfl, ?_⟩) (by assumption) ?_
            · intro w hSw; (try dsimp only at hSw); go_simp <;> (intros; omega)
            simp only [Act.put, List.setIfInBounds_toArray, List.set_cons_zero, List.set_cons_succ]
            refine takeD 23 (some 36) (.string o0) rfl rfl (by kernel_rfl) (by kernel_rfl) (by kernel_rfl) (fun _ _ _ h => h) (Or.inl ⟨by rfl, ?_⟩) (by assumption) ?_
            · intro w hSw; (try dsimp only at hSw); go_simp <;> (intros; omega)
            simp only [Act.put, List.setIfInBounds_toArray, List.set_cons_zero, List.set_cons_succ]
            refine wpAnyH_ready (rs := [24]) (by kernel_rfl) (by simp) ?_
            refine AllReadyH.cons rfl (fun K hK => ?_) AllReadyH.nil
            go_simp
            go_at_call 55; refine (HQ.out _).mono ?_; rintro r w2 ⟨rfl, hB⟩; have Q2 := hide' (show Qs w w2 B #[.string o, .int .i64 t, .int .i64 c, .int .i64 l, .string d] (some ⟨g, off, none⟩) L by first | exact Q1.out.step hB | exact Q1.out.drew.step hB); clear hB
            go_wp2_with fail
            refine hK.out _ _ (QF.out _ Q2.out) (fun hHeld => ?_)
            clear hK K
            try simp only [Act.put, List.setIfInBounds_toArray, List.set_cons_zero, List.set_cons_succ]
            refine takeD 25 (some 38) (.bool true) rfl rfl (by kernel_rfl) (by kernel_rfl) (by kernel_rfl) (fun _ _ _ h => h) (Or.inl ⟨by rfl, ?_⟩) (by assumption) ?_
            · intro w hSw; (try dsimp only at hSw); go_simp <;> (intros; omega)
            simp only [Act.put, List.setIfInBounds_toArray, List.set_cons_zero, List.set_cons_succ]
            refine takeD 26 (some 39) (.bool true) rfl rfl (by kernel_rfl) (by kernel_rfl) (by kernel_rfl) (fun _ _ _ h => h) (Or.inl ⟨by rfl, ?_⟩) (by assumption) ?_
            · intro w hSw; (try dsimp only at hSw); go_simp <;> (intros; omega)
            simp only [Act.put, List.setIfInBounds_toArray, List.set_cons_zero, List.set_cons_succ]
            refine wpAnyH_done (by kernel_rfl) ?_ _
            go_wp2_with fail
            go_ret
            exact ⟨by rw [HBAD.out]; try rfl, by first | exact Q2.out.2.2 | exact Q2.out.2.2.drew⟩
          | true =>
            rw [hqq] at HQ
            have HGS2 := hide' (fun b => HGS.out ⟨hzz, h46, rfl, hqq⟩ b)
            clear hqq hzz
            refine wp_region_held_drew (S := fun V => V.cell? ⟨B, 0, none⟩ = some (.string o) ∧ V.cell? ⟨B, 1, none⟩ = some (.int .i64 t) ∧ V.cell? ⟨B, 2, none⟩ = some (.int .i64 c) ∧ V.cell? ⟨B, 3, none⟩ = some (.int .i64 l) ∧ V.cell? ⟨B, 4, none⟩ = some (.string d) ∧ V.cell? ⟨g, off, none⟩ = some (.string o0) ∧ V.cell? ⟨g, off + 1, none⟩ = some (.int .i64 t)) (by kernel_rfl) ?_ (fun hHeld => ?_)
            · (try dsimp only); go_keep
            refine takeD 0 (some 13) (.agg #[.string o, .int .i64 t, .int .i64 c, .int .i64 l, .string d]) rfl rfl (by kernel_rfl) (by kernel_rfl) (by kernel_rfl) (fun _ _ _ h => h) (Or.inl ⟨by rfl, ?_⟩) (by assumption) ?_
            · intro w hSw; (try dsimp only at hSw); go_simp <;> (intros; omega)
            simp only [Act.put, List.setIfInBounds_toArray, List.set_cons_zero, List.set_cons_succ]
            refine wpAnyH_ready (rs := [1]) (by kernel_rfl) (by simp) ?_
            refine AllReadyH.cons rfl (fun K hK => ?_) AllReadyH.nil
            go_simp
            go_at_call 51; refine (HZ.out _).mono ?_; rintro r w1 ⟨rfl, hB⟩; have Q1 := hide' (show Qs w w1 B #[.string o, .int .i64 t, .int .i64 c, .int .i64 l, .string d] (some ⟨g, off, none⟩) L by first | exact Q0.out.step hB | exact Q0.out.drew.step hB); clear hB
            go_wp2_with fail
            refine hK.out _ _ (QF.out _ Q1.out) (fun hHeld => ?_)
            clear hK K
            try simp only [Act.put, List.setIfInBounds_toArray, List.set_cons_zero, List.set_cons_succ]
            refine takeD 2 (some 15) (.bool false) rfl rfl (by kernel_rfl) (by kernel_rfl) (by kernel_rfl) (fun _ _ _ h => h) (Or.inl ⟨by rfl, ?_⟩) (by assumption) ?_
            · intro w hSw; (try dsimp only at hSw); go_simp <;> (intros; omega)
            simp only [Act.put, List.setIfInBounds_toArray, List.set_cons_zero, List.set_cons_succ]
            refine takeD 3 (some 16) (.bool false) rfl rfl (by kernel_rfl) (by kernel_rfl) (by kernel_rfl) (fun _ _ _ h => h) (Or.inl ⟨by rfl, ?_⟩) (by assumption) ?_
            · intro w hSw; (try dsimp only at hSw); go_simp <;> (intros; omega)
            simp only [Act.put, List.setIfInBounds_toArray, List.set_cons_zero, List.set_cons_succ]
            refine takeD 4 (some 17) (.pointer (some ⟨B, 1, none⟩)) rfl rfl (by kernel_rfl) (by kernel_rfl) (by kernel_rfl) (fun _ _ _ h => h) (Or.inl ⟨by rfl, ?_⟩) (by assumption) ?_
            · intro w hSw; (try dsimp only at hSw); go_simp <;> (intros; omega)
            simp only [Act.put, List.setIfInBounds_toArray, List.set_cons_zero, List.set_cons_succ]
            refine takeD 5 (some 18) (.int .i64 t) rfl rfl (by kernel_rfl) (by kernel_rfl) (by kernel_rfl) (fun _ _ _ h => h) (Or.inl ⟨by rfl, ?_⟩) (by assumption) ?_
            · intro w hSw; (try dsimp only at hSw); go_simp <;> (intros; omega)
            simp only [Act.put, List.setIfInBounds_toArray, List.set_cons_zero, List.set_cons_succ]
            refine takeD 6 (some 19) (.bool false) rfl rfl (by kernel_rfl) (by kernel_rfl) (by kernel_rfl) (fun _ _ _ h => h) (Or.inl ⟨by rfl, ?_⟩) (by assumption) ?_
            · intro w hSw; (try dsimp only at hSw); go_simp <;> (intros; omega)
            simp only [Act.put, List.setIfInBounds_toArray, List.set_cons_zero, List.set_cons_succ]
            refine takeD 7 (some 20) (.bool false) rfl rfl (by kernel_rfl) (by kernel_rfl) (by kernel_rfl) (fun _ _ _ h => h) (Or.inl ⟨by rfl, ?_⟩) (by assumption) ?_
            · intro w hSw; (try dsimp only at hSw); go_simp <;> (intros; omega)
            simp only [Act.put, List.setIfInBounds_toArray, List.set_cons_zero, List.set_cons_succ]
            refine takeD 8 (some 21) (.bool false) rfl rfl (by kernel_rfl) (by kernel_rfl) (by kernel_rfl) (fun _ _ _ h => h) (Or.inl ⟨by rfl, ?_⟩) (by assumption) ?_
            · intro w hSw; (try dsimp only at hSw); go_simp <;> (intros; omega)
            simp only [Act.put, List.setIfInBounds_toArray, List.set_cons_zero, List.set_cons_succ]
            refine takeD 9 (some 22) (.pointer (some ⟨B, 1, none⟩)) rfl rfl (by kernel_rfl) (by kernel_rfl) (by kernel_rfl) (fun _ _ _ h => h) (Or.inl ⟨by rfl, ?_⟩) (by assumption) ?_
            · intro w hSw; (try dsimp only at hSw); go_simp <;> (intros; omega)
            simp only [Act.put, List.setIfInBounds_toArray, List.set_cons_zero, List.set_cons_succ]
            refine takeD 10 (some 23) (.int .i64 t) rfl rfl (by kernel_rfl) (by kernel_rfl) (by kernel_rfl) (fun _ _ _ h => h) (Or.inl ⟨by rfl, ?_⟩) (by assumption) ?_
            · intro w hSw; (try dsimp only at hSw); go_simp <;> (intros; omega)
            simp only [Act.put, List.setIfInBounds_toArray, List.set_cons_zero, List.set_cons_succ]
            refine takeD 11 (some 24) (.slice (some ⟨g, off, none⟩) nl cap) rfl rfl (by kernel_rfl) (by kernel_rfl) (by kernel_rfl) (fun _ _ _ h => h) (Or.inl ⟨by rfl, ?_⟩) (by assumption) ?_
            · intro w hSw; (try dsimp only at hSw); go_simp <;> (intros; omega)
            simp only [Act.put, List.setIfInBounds_toArray, List.set_cons_zero, List.set_cons_succ]
            refine takeD 12 (some 25) (.pointer (some ⟨g, off, none⟩)) rfl rfl (by kernel_rfl) (by kernel_rfl) (by kernel_rfl) (fun _ _ _ h => h) (Or.inl ⟨by rfl, ?_⟩) (by assumption) ?_
            · intro w hSw; (try dsimp only at hSw); go_simp <;> (intros; omega)
            simp only [Act.put, List.setIfInBounds_toArray, List.set_cons_zero, List.set_cons_succ]
            refine takeD 13 (some 26) (.pointer (some ⟨g, off + 1, none⟩)) rfl rfl (by kernel_rfl) (by kernel_rfl) (by kernel_rfl) (fun _ _ _ h => h) (Or.inl ⟨by rfl, ?_⟩) (by assumption) ?_
            · intro w hSw; (try dsimp only at hSw); go_simp <;> (intros; omega)
            simp only [Act.put, List.setIfInBounds_toArray, List.set_cons_zero, List.set_cons_succ]
            refine takeD 14 (some 27) (.int .i64 t) rfl rfl (by kernel_rfl) (by kernel_rfl) (by kernel_rfl) (fun _ _ _ h => h) (Or.inl ⟨by rfl, ?_⟩) (by assumption) ?_
            · intro w hSw; (try dsimp only at hSw); go_simp <;> (intros; omega)
            simp only [Act.put, List.setIfInBounds_toArray, List.set_cons_zero, List.set_cons_succ]
            refine takeD 15 (some 28) (.bool false) rfl rfl (by kernel_rfl) (by kernel_rfl) (by kernel_rfl) (fun _ _ _ h => h) (Or.inl ⟨by rfl, ?_⟩) (by assumption) ?_
            · intro w hSw; (try dsimp only at hSw); go_simp <;> (intros; omega)
            simp only [Act.put, List.setIfInBounds_toArray, List.set_cons_zero, List.set_cons_succ]
            refine takeD 16 (some 29) (.bool false) rfl rfl (by kernel_rfl) (by kernel_rfl) (by kernel_rfl) (fun _ _ _ h => h) (Or.inl ⟨by rfl, ?_⟩) (by assumption) ?_
            · intro w hSw; (try dsimp only at hSw); go_simp <;> (intros; omega)
            simp only [Act.put, List.setIfInBounds_toArray, List.set_cons_zero, List.set_cons_succ]
            refine takeD 17 (some 30) (.bool false) rfl rfl (by kernel_rfl) (by kernel_rfl) (by kernel_rfl) (fun _ _ _ h => h) (Or.inl ⟨by rfl, ?_⟩) (by assumption) ?_
            · intro w hSw; (try dsimp only at hSw); go_simp <;> (intros; omega)
            simp only [Act.put, List.setIfInBounds_toArray, List.set_cons_zero, List.set_cons_succ]
            refine takeD 18 (some 31) (.pointer (some ⟨B, 0, none⟩)) rfl rfl (by kernel_rfl) (by kernel_rfl) (by kernel_rfl) (fun _ _ _ h => h) (Or.inl ⟨by rfl, ?_⟩) (by assumption) ?_
            · intro w hSw; (try dsimp only at hSw); go_simp <;> (intros; omega)
            simp only [Act.put, List.setIfInBounds_toArray, List.set_cons_zero, List.set_cons_succ]
            refine takeD 19 (some 32) (.string o) rfl rfl (by kernel_rfl) (by kernel_rfl) (by kernel_rfl) (fun _ _ _ h => h) (Or.inl ⟨by rfl, ?_⟩) (by assumption) ?_
            · intro w hSw; (try dsimp only at hSw); go_simp <;> (intros; omega)
            simp only [Act.put, List.setIfInBounds_toArray, List.set_cons_zero, List.set_cons_succ]
            refine takeD 20 (some 33) (.slice (some ⟨g, off, none⟩) nl cap) rfl rfl (by kernel_rfl) (by kernel_rfl) (by kernel_rfl) (fun _ _ _ h => h) (Or.inl ⟨by rfl, ?_⟩) (by assumption) ?_
            · intro w hSw; (try dsimp only at hSw); go_simp <;> (intros; omega)
            simp only [Act.put, List.setIfInBounds_toArray, List.set_cons_zero, List.set_cons_succ]
            refine takeD 21 (some 34) (.pointer (some ⟨g, off, none⟩)) rfl rfl (by kernel_rfl) (by kernel_rfl) (by kernel_rfl) (fun _ _ _ h => h) (Or.inl ⟨by rfl, ?_⟩) (by assumption) ?_
            · intro w hSw; (try dsimp only at hSw); go_simp <;> (intros; omega)
            simp only [Act.put, List.setIfInBounds_toArray, List.set_cons_zero, List.set_cons_succ]
            refine takeD 22 (some 35) (.pointer (some ⟨g, off, none⟩)) rfl rfl (by kernel_rfl) (by kernel_rfl) (by kernel_rfl) (fun _ _ _ h => h) (Or.inl ⟨by rfl, ?_⟩) (by assumption) ?_
            · intro w hSw; (try dsimp only at hSw); go_simp <;> (intros; omega)
            simp only [Act.put, List.setIfInBounds_toArray, List.set_cons_zero, List.set_cons_succ]
            refine takeD 23 (some 36) (.string o0) rfl rfl (by kernel_rfl) (by kernel_rfl) (by kernel_rfl) (fun _ _ _ h => h) (Or.inl ⟨by rfl, ?_⟩) (by assumption) ?_
            · intro w hSw; (try dsimp only at hSw); go_simp <;> (intros; omega)
            simp only [Act.put, List.setIfInBounds_toArray, List.set_cons_zero, List.set_cons_succ]
            refine wpAnyH_ready (rs := [24]) (by kernel_rfl) (by simp) ?_
            refine AllReadyH.cons rfl (fun K hK => ?_) AllReadyH.nil
            go_simp
            go_at_call 55; refine (HQ.out _).mono ?_; rintro r w2 ⟨rfl, hB⟩; have Q2 := hide' (show Qs w w2 B #[.string o, .int .i64 t, .int .i64 c, .int .i64 l, .string d] (some ⟨g, off, none⟩) L by first | exact Q1.out.step hB | exact Q1.out.drew.step hB); clear hB
            go_wp2_with fail
            refine hK.out _ _ (QF.out _ Q2.out) (fun hHeld => ?_)
            clear hK K
            try simp only [Act.put, List.setIfInBounds_toArray, List.set_cons_zero, List.set_cons_succ]
            refine takeD 25 (some 38) (.bool false) rfl rfl (by kernel_rfl) (by kernel_rfl) (by kernel_rfl) (fun _ _ _ h => h) (Or.inl ⟨by rfl, ?_⟩) (by assumption) ?_
            · intro w hSw; (try dsimp only at hSw); go_simp <;> (intros; omega)
            simp only [Act.put, List.setIfInBounds_toArray, List.set_cons_zero, List.set_cons_succ]
            refine takeD 26 (some 39) (.bool false) rfl rfl (by kernel_rfl) (by kernel_rfl) (by kernel_rfl) (fun _ _ _ h => h) (Or.inl ⟨by rfl, ?_⟩) (by assumption) ?_
            · intro w hSw; (try dsimp only at hSw); go_simp <;> (intros; omega)
            simp only [Act.put, List.setIfInBounds_toArray, List.set_cons_zero, List.set_cons_succ]
            refine wpAnyH_done (by kernel_rfl) ?_ _
            go_wp2_with fail
            go_loopw [5] (fun jv wr2 => ∃ j : Nat, jv = .int .i64 (j : Int) ∧ j ≤ k ∧ Hid (∀ i, (hi : i < L.length) → i < j → fdR ⟨o, t, c, l, d⟩ ≠ fdR L[i]) ∧ Hid (Qs w wr2 B #[.string o, .int .i64 t, .int .i64 c, .int .i64 l, .string d] (some ⟨g, off, none⟩) L)) (fun jv _ => k - (intOf jv).toNat)
            case atStart => exact ⟨0, rfl, Nat.zero_le _, (fun i _ h => absurd h (Nat.not_lt_zero _)), by first | exact Q2 | exact Q2.out.drew⟩
            case round =>
              obtain ⟨j, rfl, hj, NJ, Q4⟩ := hrel
              clear Q0 Q1 Q2 b0 b1 b2 b3 b4 a0 a1 QF HZ HQ
              by_cases hjk : j < k
              · have hjl : j < L.length := by rw [HNL.out]; omega
                have hji : (j : Int) < (nl : Int) := by omega
                have hsj := (HSZ.out _ (List.getElem_mem hjl)).2
                have hsx := (HSZ.out _ (List.getElem_mem hkl)).2
                rw [HX.out] at hsx
                have htj : L[j].t = t := by
                  have h1 := (GK.out j hjl hjk).1.2.2.1
                  have h2 := HX0.out
                  rw [hdR_eq h0l] at h2
                  rw [h1, h2]
                have HFJ : Hid (fdR L[j] = foldD t L[j].d) := by unfold Hid fdR; rw [htj]
                have HFA := hide' (fun W => refFoldData_any t d W hsx)
                have HFB := hide' (fun W => refFoldData_any t L[j].d W hsj)
                have HNE := hide' (fun (e : foldD t d = foldD t L[j].d) => (show setOK L = false from not_good (fun h => (HGD.out h).2 j hjk (by rw [HFJ.out]; exact e))))
                have HNX := hide' (fun (e : ¬ foldD t d = foldD t L[j].d) => (show ∀ i, (hi : i < L.length) → i < j + 1 → fdR ⟨o, t, c, l, d⟩ ≠ fdR L[i] from fun i hi hij => by
                  rcases Nat.lt_or_ge i j with h | h
                  · exact NJ.out i hi h
                  · obtain rfl : i = j := by omega
                    rw [HFJ.out]
                    exact e))
                have QG : Hid (∀ V : World, Qs w V B #[.string o, .int .i64 t, .int .i64 c, .int .i64 l, .string d] (some ⟨g, off, none⟩) L → V.cell? ⟨B, 1, none⟩ = some (.int .i64 t) ∧ V.cell? ⟨B, 4, none⟩ = some (.string d) ∧ V.cell? ⟨g, off + j * 5 + 4, none⟩ = some (.string L[j].d)) := fun V h => by
                  obtain ⟨g', off', hpp, _, _, _, _, _, u4⟩ := h.2.1 j hjl
                  injection hpp with hpp
                  injection hpp with hp1 hp2
                  subst hp1
                  subst hp2
                  exact ⟨h.1.cell rfl, h.1.cell rfl, u4⟩
                have htl := toList_bt (foldD t d) (foldD t L[j].d)
                clear hsj hsx htj
                generalize L[j].d = dj at *
                generalize foldD t d = X at *
                generalize foldD t dj = Y at *
                obtain ⟨y1, y2, y3⟩ := QG.out _ Q4.out
                by_cases hXY : X = Y
                · have HBAD := hide' (HNE.out hXY)
                  rw [decide_eq_true hXY] at htl
                  clear hXY HNX
                  go_wp2_with fail
                  refine wp_region_held_drew (S := fun V => V.cell? ⟨B, 1, none⟩ = some (.int .i64 t) ∧ V.cell? ⟨B, 4, none⟩ = some (.string d) ∧ V.cell? ⟨g, off + j * 5 + 4, none⟩ = some (.string dj)) (by kernel_rfl) ?_ (fun hHeld => ?_)
                  · (try dsimp only); go_keep
                  refine takeD 0 (some 45) (.pointer (some ⟨B, 1, none⟩)) rfl rfl (by kernel_rfl) (by kernel_rfl) (by kernel_rfl) (fun _ _ _ h => h) (Or.inl ⟨by rfl, ?_⟩) (by assumption) ?_
                  · intro w hSw; (try dsimp only at hSw); go_simp <;> (intros; omega)
                  simp only [Act.put, List.setIfInBounds_toArray, List.set_cons_zero, List.set_cons_succ]
                  refine takeD 1 (some 46) (.int .i64 t) rfl rfl (by kernel_rfl) (by kernel_rfl) (by kernel_rfl) (fun _ _ _ h => h) (Or.inl ⟨by rfl, ?_⟩) (by assumption) ?_
                  · intro w hSw; (try dsimp only at hSw); go_simp <;> (intros; omega)
                  simp only [Act.put, List.setIfInBounds_toArray, List.set_cons_zero, List.set_cons_succ]
                  refine takeD 2 (some 47) (.pointer (some ⟨B, 4, none⟩)) rfl rfl (by kernel_rfl) (by kernel_rfl) (by kernel_rfl) (fun _ _ _ h => h) (Or.inl ⟨by rfl, ?_⟩) (by assumption) ?_
                  · intro w hSw; (try dsimp only at hSw); go_simp <;> (intros; omega)
                  simp only [Act.put, List.setIfInBounds_toArray, List.set_cons_zero, List.set_cons_succ]
                  refine takeD 3 (some 48) (.string d) rfl rfl (by kernel_rfl) (by kernel_rfl) (by kernel_rfl) (fun _ _ _ h => h) (Or.inl ⟨by rfl, ?_⟩) (by assumption) ?_
                  · intro w hSw; (try dsimp only at hSw); go_simp <;> (intros; omega)
                  simp only [Act.put, List.setIfInBounds_toArray, List.set_cons_zero, List.set_cons_succ]
                  refine takeD 5 (some 50) (.pointer (some ⟨B, 1, none⟩)) rfl rfl (by kernel_rfl) (by kernel_rfl) (by kernel_rfl) (fun _ _ _ h => h) (Or.inl ⟨by rfl, ?_⟩) (by assumption) ?_
                  · intro w hSw; (try dsimp only at hSw); go_simp <;> (intros; omega)
                  simp only [Act.put, List.setIfInBounds_toArray, List.set_cons_zero, List.set_cons_succ]
                  refine takeD 6 (some 51) (.int .i64 t) rfl rfl (by kernel_rfl) (by kernel_rfl) (by kernel_rfl) (fun _ _ _ h => h) (Or.inl ⟨by rfl, ?_⟩) (by assumption) ?_
                  · intro w hSw; (try dsimp only at hSw); go_simp <;> (intros; omega)
                  simp only [Act.put, List.setIfInBounds_toArray, List.set_cons_zero, List.set_cons_succ]
                  refine takeD 7 (some 52) (.slice (some ⟨g, off, none⟩) nl cap) rfl rfl (by kernel_rfl) (by kernel_rfl) (by kernel_rfl) (fun _ _ _ h => h) (Or.inl ⟨by rfl, ?_⟩) (by assumption) ?_
                  · intro w hSw; (try dsimp only at hSw); go_simp <;> (intros; omega)
                  simp only [Act.put, List.setIfInBounds_toArray, List.set_cons_zero, List.set_cons_succ]
                  refine takeD 8 (some 53) (.int .i64 (j : Int)) rfl rfl (by kernel_rfl) (by kernel_rfl) (by kernel_rfl) (fun _ _ _ h => h) (Or.inl ⟨by rfl, ?_⟩) (by assumption) ?_
                  · intro w hSw; (try dsimp only at hSw); go_simp <;> (intros; omega)
                  simp only [Act.put, List.setIfInBounds_toArray, List.set_cons_zero, List.set_cons_succ]
                  refine takeD 9 (some 54) (.pointer (some ⟨g, off + j * 5, none⟩)) rfl rfl (by kernel_rfl) (by kernel_rfl) (by kernel_rfl) (fun _ _ _ h => h) (Or.inl ⟨by rfl, ?_⟩) (by assumption) ?_
                  · intro w hSw; (try dsimp only at hSw); go_simp <;> (intros; omega)
                  simp only [Act.put, List.setIfInBounds_toArray, List.set_cons_zero, List.set_cons_succ]
                  refine takeD 10 (some 55) (.pointer (some ⟨g, off + j * 5 + 4, none⟩)) rfl rfl (by kernel_rfl) (by kernel_rfl) (by kernel_rfl) (fun _ _ _ h => h) (Or.inl ⟨by rfl, ?_⟩) (by assumption) ?_
                  · intro w hSw; (try dsimp only at hSw); go_simp <;> (intros; omega)
                  simp only [Act.put, List.setIfInBounds_toArray, List.set_cons_zero, List.set_cons_succ]
                  refine takeD 11 (some 56) (.string dj) rfl rfl (by kernel_rfl) (by kernel_rfl) (by kernel_rfl) (fun _ _ _ h => h) (Or.inl ⟨by rfl, ?_⟩) (by assumption) ?_
                  · intro w hSw; (try dsimp only at hSw); go_simp <;> (intros; omega)
                  simp only [Act.put, List.setIfInBounds_toArray, List.set_cons_zero, List.set_cons_succ]
                  refine wpAnyH_ready (rs := [4]) (by kernel_rfl) (by simp) ?_
                  refine AllReadyH.cons rfl (fun K hK => ?_) AllReadyH.nil
                  go_simp
                  go_at_call 77; refine (HFA.out _).mono ?_; rintro r w5 ⟨rfl, hB⟩; have Q5 := hide' (show Qs w w5 B #[.string o, .int .i64 t, .int .i64 c, .int .i64 l, .string d] (some ⟨g, off, none⟩) L by first | exact Q4.out.step hB | exact Q4.out.drew.step hB); clear hB
                  go_wp2_with fail
                  refine hK.out _ _ (QG.out _ Q5.out) (fun hHeld => ?_)
                  clear hK K
                  try simp only [Act.put, List.setIfInBounds_toArray, List.set_cons_zero, List.set_cons_succ]
                  refine wpAnyH_ready (rs := [12]) (by kernel_rfl) (by simp) ?_
                  refine AllReadyH.cons rfl (fun K hK => ?_) AllReadyH.nil
                  go_simp
                  go_at_call 77; refine (HFB.out _).mono ?_; rintro r w6 ⟨rfl, hB⟩; have Q6 := hide' (show Qs w w6 B #[.string o, .int .i64 t, .int .i64 c, .int .i64 l, .string d] (some ⟨g, off, none⟩) L by first | exact Q5.out.step hB | exact Q5.out.drew.step hB); clear hB
                  go_wp2_with fail
                  refine hK.out _ _ (QG.out _ Q6.out) (fun hHeld => ?_)
                  clear hK K
                  try simp only [Act.put, List.setIfInBounds_toArray, List.set_cons_zero, List.set_cons_succ]
                  refine takeD 13 (some 58) (.bool true) rfl rfl (by kernel_rfl) (by kernel_rfl) (by kernel_rfl) (fun _ _ _ h => h) (Or.inl ⟨by rfl, ?_⟩) (by assumption) ?_
                  · intro w hSw; (try dsimp only at hSw); go_simp <;> (intros; omega)
                  simp only [Act.put, List.setIfInBounds_toArray, List.set_cons_zero, List.set_cons_succ]
                  refine wpAnyH_done (by kernel_rfl) ?_ _
                  go_wp2_with fail
                  go_ret
                  exact ⟨by rw [HBAD.out]; try rfl, by first | exact Q6.out.2.2 | exact Q6.out.2.2.drew⟩
                · have HNX2 := hide' (HNX.out hXY)
                  rw [decide_eq_false hXY] at htl
                  clear hXY HNE
                  go_wp2_with fail
                  refine wp_region_held_drew (S := fun V => V.cell? ⟨B, 1, none⟩ = some (.int .i64 t) ∧ V.cell? ⟨B, 4, none⟩ = some (.string d) ∧ V.cell? ⟨g, off + j * 5 + 4, none⟩ = some (.string dj)) (by kernel_rfl) ?_ (fun hHeld => ?_)
                  · (try dsimp only); go_keep
                  refine takeD 0 (some 45) (.pointer (some ⟨B, 1, none⟩)) rfl rfl (by kernel_rfl) (by kernel_rfl) (by kernel_rfl) (fun _ _ _ h => h) (Or.inl ⟨by rfl, ?_⟩) (by assumption) ?_
                  · intro w hSw; (try dsimp only at hSw); go_simp <;> (intros; omega)
                  simp only [Act.put, List.setIfInBounds_toArray, List.set_cons_zero, List.set_cons_succ]
                  refine takeD 1 (some 46) (.int .i64 t) rfl rfl (by kernel_rfl) (by kernel_rfl) (by kernel_rfl) (fun _ _ _ h => h) (Or.inl ⟨by rfl, ?_⟩) (by assumption) ?_
                  · intro w hSw; (try dsimp only at hSw); go_simp <;> (intros; omega)
                  simp only [Act.put, List.setIfInBounds_toArray, List.set_cons_zero, List.set_cons_succ]
                  refine takeD 2 (some 47) (.pointer (some ⟨B, 4, none⟩)) rfl rfl (by kernel_rfl) (by kernel_rfl) (by kernel_rfl) (fun _ _ _ h => h) (Or.inl ⟨by rfl, ?_⟩) (by assumption) ?_
                  · intro w hSw; (try dsimp only at hSw); go_simp <;> (intros; omega)
                  simp only [Act.put, List.setIfInBounds_toArray, List.set_cons_zero, List.set_cons_succ]
                  refine takeD 3 (some 48) (.string d) rfl rfl (by kernel_rfl) (by kernel_rfl) (by kernel_rfl) (fun _ _ _ h => h) (Or.inl ⟨by rfl, ?_⟩) (by assumption) ?_
                  · intro w hSw; (try dsimp only at hSw); go_simp <;> (intros; omega)
                  simp only [Act.put, List.setIfInBounds_toArray, List.set_cons_zero, List.set_cons_succ]
                  refine takeD 5 (some 50) (.pointer (some ⟨B, 1, none⟩)) rfl rfl (by kernel_rfl) (by kernel_rfl) (by kernel_rfl) (fun _ _ _ h => h) (Or.inl ⟨by rfl, ?_⟩) (by assumption) ?_
                  · intro w hSw; (try dsimp only at hSw); go_simp <;> (intros; omega)
                  simp only [Act.put, List.setIfInBounds_toArray, List.set_cons_zero, List.set_cons_succ]
                  refine takeD 6 (some 51) (.int .i64 t) rfl rfl (by kernel_rfl) (by kernel_rfl) (by kernel_rfl) (fun _ _ _ h => h) (Or.inl ⟨by rfl, ?_⟩) (by assumption) ?_
                  · intro w hSw; (try dsimp only at hSw); go_simp <;> (intros; omega)
                  simp only [Act.put, List.setIfInBounds_toArray, List.set_cons_zero, List.set_cons_succ]
                  refine takeD 7 (some 52) (.slice (some ⟨g, off, none⟩) nl cap) rfl rfl (by kernel_rfl) (by kernel_rfl) (by kernel_rfl) (fun _ _ _ h => h) (Or.inl ⟨by rfl, ?_⟩) (by assumption) ?_
                  · intro w hSw; (try dsimp only at hSw); go_simp <;> (intros; omega)
                  simp only [Act.put, List.setIfInBounds_toArray, List.set_cons_zero, List.set_cons_succ]
                  refine takeD 8 (some 53) (.int .i64 (j : Int)) rfl rfl (by kernel_rfl) (by kernel_rfl) (by kernel_rfl) (fun _ _ _ h => h) (Or.inl ⟨by rfl, ?_⟩) (by assumption) ?_
                  · intro w hSw; (try dsimp only at hSw); go_simp <;> (intros; omega)
                  simp only [Act.put, List.setIfInBounds_toArray, List.set_cons_zero, List.set_cons_succ]
                  refine takeD 9 (some 54) (.pointer (some ⟨g, off + j * 5, none⟩)) rfl rfl (by kernel_rfl) (by kernel_rfl) (by kernel_rfl) (fun _ _ _ h => h) (Or.inl ⟨by rfl, ?_⟩) (by assumption) ?_
                  · intro w hSw; (try dsimp only at hSw); go_simp <;> (intros; omega)
                  simp only [Act.put, List.setIfInBounds_toArray, List.set_cons_zero, List.set_cons_succ]
                  refine takeD 10 (some 55) (.pointer (some ⟨g, off + j * 5 + 4, none⟩)) rfl rfl (by kernel_rfl) (by kernel_rfl) (by kernel_rfl) (fun _ _ _ h => h) (Or.inl ⟨by rfl, ?_⟩) (by assumption) ?_
                  · intro w hSw; (try dsimp only at hSw); go_simp <;> (intros; omega)
                  simp only [Act.put, List.setIfInBounds_toArray, List.set_cons_zero, List.set_cons_succ]
                  refine takeD 11 (some 56) (.string dj) rfl rfl (by kernel_rfl) (by kernel_rfl) (by kernel_rfl) (fun _ _ _ h => h) (Or.inl ⟨by rfl, ?_⟩) (by assumption) ?_
                  · intro w hSw; (try dsimp only at hSw); go_simp <;> (intros; omega)
                  simp only [Act.put, List.setIfInBounds_toArray, List.set_cons_zero, List.set_cons_succ]
                  refine wpAnyH_ready (rs := [4]) (by kernel_rfl) (by simp) ?_
                  refine AllReadyH.cons rfl (fun K hK => ?_) AllReadyH.nil
                  go_simp
                  go_at_call 77; refine (HFA.out _).mono ?_; rintro r w5 ⟨rfl, hB⟩; have Q5 := hide' (show Qs w w5 B #[.string o, .int .i64 t, .int .i64 c, .int .i64 l, .string d] (some ⟨g, off, none⟩) L by first | exact Q4.out.step hB | exact Q4.out.drew.step hB); clear hB
                  go_wp2_with fail
                  refine hK.out _ _ (QG.out _ Q5.out) (fun hHeld => ?_)
                  clear hK K
                  try simp only [Act.put, List.setIfInBounds_toArray, List.set_cons_zero, List.set_cons_succ]
                  refine wpAnyH_ready (rs := [12]) (by kernel_rfl) (by simp) ?_
                  refine AllReadyH.cons rfl (fun K hK => ?_) AllReadyH.nil
                  go_simp
                  go_at_call 77; refine (HFB.out _).mono ?_; rintro r w6 ⟨rfl, hB⟩; have Q6 := hide' (show Qs w w6 B #[.string o, .int .i64 t, .int .i64 c, .int .i64 l, .string d] (some ⟨g, off, none⟩) L by first | exact Q5.out.step hB | exact Q5.out.drew.step hB); clear hB
                  go_wp2_with fail
                  refine hK.out _ _ (QG.out _ Q6.out) (fun hHeld => ?_)
                  clear hK K
                  try simp only [Act.put, List.setIfInBounds_toArray, List.set_cons_zero, List.set_cons_succ]
                  refine takeD 13 (some 58) (.bool false) rfl rfl (by kernel_rfl) (by kernel_rfl) (by kernel_rfl) (fun _ _ _ h => h) (Or.inl ⟨by rfl, ?_⟩) (by assumption) ?_
                  · intro w hSw; (try dsimp only at hSw); go_simp <;> (intros; omega)
                  simp only [Act.put, List.setIfInBounds_toArray, List.set_cons_zero, List.set_cons_succ]
                  refine wpAnyH_done (by kernel_rfl) ?_ _
                  go_wp2_with fail
                  refine ⟨⟨j + 1, by go_num, by omega, HNX2, by first | exact Q6 | exact Q6.out.drew⟩, by simp [intOf]; omega⟩
              · obtain rfl : j = k := by omega
                have HG2 : Hid (goodL L (j + 1)) := HGS2.out (fun i hi => NJ.out i (by omega) hi)
                go_wp2_with fail
                exact ⟨⟨j + 1, by go_num, by omega, HG2, Q4.out.2.2⟩, by simp [intOf]; omega⟩
        · have HBAD : Hid (setOK L = false) := not_good (fun h => htt (HGD.out h).1.2.2.1)
          clear hzz
          refine wp_region_held_drew (S := fun V => V.cell? ⟨B, 0, none⟩ = some (.string o) ∧ V.cell? ⟨B, 1, none⟩ = some (.int .i64 t) ∧ V.cell? ⟨B, 2, none⟩ = some (.int .i64 c) ∧ V.cell? ⟨B, 3, none⟩ = some (.int .i64 l) ∧ V.cell? ⟨B, 4, none⟩ = some (.string d) ∧ V.cell? ⟨g, off, none⟩ = some (.string o0) ∧ V.cell? ⟨g, off + 1, none⟩ = some (.int .i64 t0)) (by kernel_rfl) ?_ (fun hHeld => ?_)
          · (try dsimp only); go_keep
          refine takeD 0 (some 13) (.agg #[.string o, .int .i64 t, .int .i64 c, .int .i64 l, .string d]) rfl rfl (by kernel_rfl) (by kernel_rfl) (by kernel_rfl) (fun _ _ _ h => h) (Or.inl ⟨by rfl, ?_⟩) (by assumption) ?_
          · intro w hSw; (try dsimp only at hSw); go_simp <;> (intros; omega)
          simp only [Act.put, List.setIfInBounds_toArray, List.set_cons_zero, List.set_cons_succ]
          refine wpAnyH_ready (rs := [1]) (by kernel_rfl) (by simp) ?_
          refine AllReadyH.cons rfl (fun K hK => ?_) AllReadyH.nil
          go_simp
          go_at_call 51; refine (HZ.out _).mono ?_; rintro r w1 ⟨rfl, hB⟩; have Q1 := hide' (show Qs w w1 B #[.string o, .int .i64 t, .int .i64 c, .int .i64 l, .string d] (some ⟨g, off, none⟩) L by first | exact Q0.out.step hB | exact Q0.out.drew.step hB); clear hB
          go_wp2_with fail
          refine hK.out _ _ (QF.out _ Q1.out) (fun hHeld => ?_)
          clear hK K
          try simp only [Act.put, List.setIfInBounds_toArray, List.set_cons_zero, List.set_cons_succ]
          refine takeD 2 (some 15) (.bool false) rfl rfl (by kernel_rfl) (by kernel_rfl) (by kernel_rfl) (fun _ _ _ h => h) (Or.inl ⟨by rfl, ?_⟩) (by assumption) ?_
          · intro w hSw; (try dsimp only at hSw); go_simp <;> (intros; omega)
          simp only [Act.put, List.setIfInBounds_toArray, List.set_cons_zero, List.set_cons_succ]
          refine takeD 3 (some 16) (.bool false) rfl rfl (by kernel_rfl) (by kernel_rfl) (by kernel_rfl) (fun _ _ _ h => h) (Or.inl ⟨by rfl, ?_⟩) (by assumption) ?_
          · intro w hSw; (try dsimp only at hSw); go_simp <;> (intros; omega)
          simp only [Act.put, List.setIfInBounds_toArray, List.set_cons_zero, List.set_cons_succ]
          refine takeD 4 (some 17) (.pointer (some ⟨B, 1, none⟩)) rfl rfl (by kernel_rfl) (by kernel_rfl) (by kernel_rfl) (fun _ _ _ h => h) (Or.inl ⟨by rfl, ?_⟩) (by assumption) ?_
          · intro w hSw; (try dsimp only at hSw); go_simp <;> (intros; omega)
          simp only [Act.put, List.setIfInBounds_toArray, List.set_cons_zero, List.set_cons_succ]
          refine takeD 5 (some 18) (.int .i64 t) rfl rfl (by kernel_rfl) (by kernel_rfl) (by kernel_rfl) (fun _ _ _ h => h) (Or.inl ⟨by rfl, ?_⟩) (by assumption) ?_
          · intro w hSw; (try dsimp only at hSw); go_simp <;> (intros; omega)
          simp only [Act.put, List.setIfInBounds_toArray, List.set_cons_zero, List.set_cons_succ]
          refine takeD 6 (some 19) (.bool false) rfl rfl (by kernel_rfl) (by kernel_rfl) (by kernel_rfl) (fun _ _ _ h => h) (Or.inl ⟨by rfl, ?_⟩) (by assumption) ?_
          · intro w hSw; (try dsimp only at hSw); go_simp <;> (intros; omega)
          simp only [Act.put, List.setIfInBounds_toArray, List.set_cons_zero, List.set_cons_succ]
          refine takeD 7 (some 20) (.bool false) rfl rfl (by kernel_rfl) (by kernel_rfl) (by kernel_rfl) (fun _ _ _ h => h) (Or.inl ⟨by rfl, ?_⟩) (by assumption) ?_
          · intro w hSw; (try dsimp only at hSw); go_simp <;> (intros; omega)
          simp only [Act.put, List.setIfInBounds_toArray, List.set_cons_zero, List.set_cons_succ]
          refine takeD 8 (some 21) (.bool false) rfl rfl (by kernel_rfl) (by kernel_rfl) (by kernel_rfl) (fun _ _ _ h => h) (Or.inl ⟨by rfl, ?_⟩) (by assumption) ?_
          · intro w hSw; (try dsimp only at hSw); go_simp <;> (intros; omega)
          simp only [Act.put, List.setIfInBounds_toArray, List.set_cons_zero, List.set_cons_succ]
          refine takeD 9 (some 22) (.pointer (some ⟨B, 1, none⟩)) rfl rfl (by kernel_rfl) (by kernel_rfl) (by kernel_rfl) (fun _ _ _ h => h) (Or.inl ⟨by rfl, ?_⟩) (by assumption) ?_
          · intro w hSw; (try dsimp only at hSw); go_simp <;> (intros; omega)
          simp only [Act.put, List.setIfInBounds_toArray, List.set_cons_zero, List.set_cons_succ]
          refine takeD 10 (some 23) (.int .i64 t) rfl rfl (by kernel_rfl) (by kernel_rfl) (by kernel_rfl) (fun _ _ _ h => h) (Or.inl ⟨by rfl, ?_⟩) (by assumption) ?_
          · intro w hSw; (try dsimp only at hSw); go_simp <;> (intros; omega)
          simp only [Act.put, List.setIfInBounds_toArray, List.set_cons_zero, List.set_cons_succ]
          refine takeD 11 (some 24) (.slice (some ⟨g, off, none⟩) nl cap) rfl rfl (by kernel_rfl) (by kernel_rfl) (by kernel_rfl) (fun _ _ _ h => h) (Or.inl ⟨by rfl, ?_⟩) (by assumption) ?_
          · intro w hSw; (try dsimp only at hSw); go_simp <;> (intros; omega)
          simp only [Act.put, List.setIfInBounds_toArray, List.set_cons_zero, List.set_cons_succ]
          refine takeD 12 (some 25) (.pointer (some ⟨g, off, none⟩)) rfl rfl (by kernel_rfl) (by kernel_rfl) (by kernel_rfl) (fun _ _ _ h => h) (Or.inl ⟨by rfl, ?_⟩) (by assumption) ?_
          · intro w hSw; (try dsimp only at hSw); go_simp <;> (intros; omega)
          simp only [Act.put, List.setIfInBounds_toArray, List.set_cons_zero, List.set_cons_succ]
          refine takeD 13 (some 26) (.pointer (some ⟨g, off + 1, none⟩)) rfl rfl (by kernel_rfl) (by kernel_rfl) (by kernel_rfl) (fun _ _ _ h => h) (Or.inl ⟨by rfl, ?_⟩) (by assumption) ?_
          · intro w hSw; (try dsimp only at hSw); go_simp <;> (intros; omega)
          simp only [Act.put, List.setIfInBounds_toArray, List.set_cons_zero, List.set_cons_succ]
          refine takeD 14 (some 27) (.int .i64 t0) rfl rfl (by kernel_rfl) (by kernel_rfl) (by kernel_rfl) (fun _ _ _ h => h) (Or.inl ⟨by rfl, ?_⟩) (by assumption) ?_
          · intro w hSw; (try dsimp only at hSw); go_simp <;> (intros; omega)
          simp only [Act.put, List.setIfInBounds_toArray, List.set_cons_zero, List.set_cons_succ]
          refine takeD 15 (some 28) (.bool true) rfl rfl (by kernel_rfl) (by kernel_rfl) (by kernel_rfl) (fun _ _ _ h => h) (Or.inl ⟨by rfl, ?_⟩) (by assumption) ?_
          · intro w hSw; (try dsimp only at hSw); go_simp <;> (intros; omega)
          simp only [Act.put, List.setIfInBounds_toArray, List.set_cons_zero, List.set_cons_succ]
          refine takeD 16 (some 29) (.bool true) rfl rfl (by kernel_rfl) (by kernel_rfl) (by kernel_rfl) (fun _ _ _ h => h) (Or.inl ⟨by rfl, ?_⟩) (by assumption) ?_
          · intro w hSw; (try dsimp only at hSw); go_simp <;> (intros; omega)
          simp only [Act.put, List.setIfInBounds_toArray, List.set_cons_zero, List.set_cons_succ]
          refine takeD 17 (some 30) (.bool true) rfl rfl (by kernel_rfl) (by kernel_rfl) (by kernel_rfl) (fun _ _ _ h => h) (Or.inl ⟨by rfl, ?_⟩) (by assumption) ?_
          · intro w hSw; (try dsimp only at hSw); go_simp <;> (intros; omega)
          simp only [Act.put, List.setIfInBounds_toArray, List.set_cons_zero, List.set_cons_succ]
          refine takeD 18 (some 31) undef rfl rfl (by kernel_rfl) (by kernel_rfl) (by kernel_rfl) (fun _ _ _ h => h) (Or.inr ⟨by rfl, rfl⟩) (by assumption) ?_
          simp only [Act.put, List.setIfInBounds_toArray, List.set_cons_zero, List.set_cons_succ]
          refine takeD 19 (some 32) undef rfl rfl (by kernel_rfl) (by kernel_rfl) (by kernel_rfl) (fun _ _ _ h => h) (Or.inr ⟨by rfl, rfl⟩) (by assumption) ?_
          simp only [Act.put, List.setIfInBounds_toArray, List.set_cons_zero, List.set_cons_succ]
          refine takeD 20 (some 33) undef rfl rfl (by kernel_rfl) (by kernel_rfl) (by kernel_rfl) (fun _ _ _ h => h) (Or.inr ⟨by rfl, rfl⟩) (by assumption) ?_
          simp only [Act.put, List.setIfInBounds_toArray, List.set_cons_zero, List.set_cons_succ]
          refine takeD 21 (some 34) undef rfl rfl (by kernel_rfl) (by kernel_rfl) (by kernel_rfl) (fun _ _ _ h => h) (Or.inr ⟨by rfl, rfl⟩) (by assumption) ?_
          simp only [Act.put, List.setIfInBounds_toArray, List.set_cons_zero, List.set_cons_succ]
          refine takeD 22 (some 35) undef rfl rfl (by kernel_rfl) (by kernel_rfl) (by kernel_rfl) (fun _ _ _ h => h) (Or.inr ⟨by rfl, rfl⟩) (by assumption) ?_
          simp only [Act.put, List.setIfInBounds_toArray, List.set_cons_zero, List.set_cons_succ]
          refine takeD 23 (some 36) undef rfl rfl (by kernel_rfl) (by kernel_rfl) (by kernel_rfl) (fun _ _ _ h => h) (Or.inr ⟨by rfl, rfl⟩) (by assumption) ?_
          simp only [Act.put, List.setIfInBounds_toArray, List.set_cons_zero, List.set_cons_succ]
          refine takeD 24 (some 37) undef rfl rfl (by kernel_rfl) (by kernel_rfl) (by kernel_rfl) (fun _ _ _ h => h) (Or.inr ⟨by rfl, rfl⟩) (by assumption) ?_
          simp only [Act.put, List.setIfInBounds_toArray, List.set_cons_zero, List.set_cons_succ]
          refine takeD 25 (some 38) undef rfl rfl (by kernel_rfl) (by kernel_rfl) (by kernel_rfl) (fun _ _ _ h => h) (Or.inr ⟨by rfl, rfl⟩) (by assumption) ?_
          simp only [Act.put, List.setIfInBounds_toArray, List.set_cons_zero, List.set_cons_succ]
          refine takeD 26 (some 39) (.bool true) rfl rfl (by kernel_rfl) (by kernel_rfl) (by kernel_rfl) (fun _ _ _ h => h) (Or.inl ⟨by rfl, ?_⟩) (by assumption) ?_
          · intro w hSw; (try dsimp only at hSw); go_simp <;> (intros; omega)
          simp only [Act.put, List.setIfInBounds_toArray, List.set_cons_zero, List.set_cons_succ]
          refine wpAnyH_done (by kernel_rfl) ?_ _
          go_wp2_with fail
          go_ret
          exact ⟨by rw [HBAD.out]; try rfl, by first | exact Q1.out.2.2 | exact Q1.out.2.2.drew⟩
    · obtain rfl : k = nl := by omega
      have HOK : Hid (setOK L = true) := (set_good L).2 ⟨by rw [HNL.out]; exact hnp, by rw [HNL.out]; exact GK.out⟩
      go_wp2_with fail
      go_ret
      exact ⟨by rw [HOK.out]; first | rfl | simp [hnp], HB.out⟩

end Go.Proofs.YtennkhdhnbdbeaaGreat
