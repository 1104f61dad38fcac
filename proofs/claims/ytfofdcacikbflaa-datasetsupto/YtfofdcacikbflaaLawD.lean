import Derived.Test.YtfofdcacikbflaaSt3
import Derived.Test.YtfofdcacikbflaaRc1
import Derived.Test.YtfofdcacikbflaaRf1
namespace Go.Proofs.Ytfofdcacikbflaa
set_option linter.unusedVariables false
open Go.RowKit Go.Shelf Go.Proofs.Ytfofdcacikbflaa.Nm

theorem ZAt.below {w w' : World} {p : Option Addr} {L : List Int} (h : ZAt w w.heap.size p L) (hb : Below w.heap.size w w') : ZAt w' w'.heap.size p L := fun k hk => by
  obtain ⟨g, off, h1, h2, h3⟩ := h k hk
  exact ⟨g, off, h1, Nat.lt_of_lt_of_le h2 hb.size, (hb.cell (p := ⟨g, off + k, none⟩) h2).trans h3⟩
theorem ZAt.of_nums {w : World} {p : Option Addr} {l : List Nat} (h : NumsAt w p l) : ZAt w w.heap.size p (l.map (fun n : Nat => (n : Int))) := fun k hk => by
  obtain ⟨g, off, h1, h2, h3⟩ := h k (by simpa using hk)
  exact ⟨g, off, h1, h2, by rw [h3]; simp⟩

set_option maxRecDepth 100000 in
set_option maxHeartbeats 1000000 in
/-- sameNumbers, at two lists that are the same -/
theorem sameNumbers_same (px py : Option Addr) (n cx cy : Nat) (l : List Nat) (w : World) (hn : l.length = n) (hx : NumsAt w px l) (hy : NumsAt w py l) (hll : l.length ≤ 4294967296) :
    Calls Try.prog 20 #[.slice px n cx, .slice py n cy] w fun e w' => e = .returned (.bool true) ∧ Below w.heap.size w w' := by
  subst hn
  go_enter Try.func20, Try.ntmps20
  go_wp2
  go_loopw [13] (fun i wr => ∃ k : Nat, i = .int .i64 k ∧ k ≤ l.length ∧ Below w.heap.size w wr) (fun i _ => l.length - (intOf i).toNat)
  case atStart => exact ⟨0, rfl, Nat.zero_le _, Below.refl _ _⟩
  case round =>
    obtain ⟨k, rfl, hk, hB⟩ := hrel
    by_cases hlt : k < l.length
    · obtain ⟨gx, ox, rfl, hgx, hcx0⟩ := hx k hlt
      obtain ⟨gy, oy, rfl, hgy, hcy0⟩ := hy k hlt
      have hcx := (hB.cell (p := ⟨gx, ox + k, none⟩) hgx).trans hcx0
      have hcy := (hB.cell (p := ⟨gy, oy + k, none⟩) hgy).trans hcy0
      generalize l[k] = X at *
      clear hcx0 hcy0
      go_wp2
      go_quiet (fail)
      go_wp2
      all_goals
        go_roundw
        case rel => exact ⟨k + 1, by go_num, by omega, below_drewN hB _⟩
        case measure => simp [intOf]; omega
    · go_wp2
      go_ret
      exact ⟨rfl, hB⟩

theorem zat_new (w : World) (L : List Int) (o : Obj) (ho : o = .cells (L.map (fun x => Value.int .i64 x)).toArray 3) : ZAt (w.alloc o) (w.alloc o).heap.size (some ⟨w.heap.size, 0, none⟩) L := fun k hk => by
  subst ho
  refine ⟨w.heap.size, 0, rfl, by simp, ?_⟩
  have e := heap_alloc_new w (.cells (L.map (fun x => Value.int .i64 x)).toArray 3)
  simp only [World.cell?, e]
  simp [hk]
theorem nums_new (w : World) (l : List Nat) (o : Obj) (ho : o = .cells (nums l).toArray 3) : NumsAt (w.alloc o) (some ⟨w.heap.size, 0, none⟩) l := fun k hk => by
  subst ho
  refine ⟨w.heap.size, 0, rfl, by simp, ?_⟩
  have e := heap_alloc_new w (.cells (nums l).toArray 3)
  simp only [World.cell?, e]
  simp [hk, nums]

set_option maxRecDepth 100000 in
set_option maxHeartbeats 2000000 in
theorem dataSets_any (L : List Int) (p : Option Addr) (cap : Nat) (ask : Int) (w : World) (hL : L.length ≤ 1048576) (hlc : L.length ≤ cap) (hc : cap ≤ 9223372036854775807) (hat : ZAt w w.heap.size p L) :
    Calls Try.prog 6 #[.slice p L.length cap, .int .i64 ask] w fun e w' => e = .returned (.bool true) ∧ Below w.heap.size w w' := by
  obtain ⟨U0, h01, h02, rfl⟩ := set_first
  obtain ⟨U, hU1, hU2, hU3, hU4, hU5, hU6⟩ := set_law L
  obtain ⟨S0, hS0⟩ : ∃ S0, setB (([46, 1, 15, 1] : List Int).mergeSort (fun x y => decide (x ≤ y))) = S0 := ⟨_, rfl⟩
  obtain ⟨S, hS⟩ : ∃ S, setB (L.mergeSort (fun x y => decide (x ≤ y))) = S := ⟨_, rfl⟩
  have HS0 := hide' (set_any [46, 1, 15, 1])
  have HS1 := hide' (set_any L)
  have HS2 := hide' (set_any (U.map (fun n : Nat => (n : Int))))
  rw [hS0] at HS0 h01 h02
  rw [hS] at HS1 hU1 hU4 hU5
  rw [hU4] at HS2
  have HT0 := hide' (fun w => types_yes (bts S0) [1, 15, 46] w (by rw [bts_size]; omega) h02)
  have HT1 := hide' (fun w => types_yes (bts S) U w (by rw [bts_size]; omega) hU1)
  have HU2 := hide' hU2
  have HU3 := hide' hU3
  have HAT := hide' hat
  clear h01 h02 hU1 hU2 hU3 hU4 hU5 hS0 hS hat
  go_enter Try.func6, Try.ntmps6
  go_wp2_with fail
  refine (HS0.out _ 4 _ (by decide) (by decide) (by decide) (zat_new w [46, 1, 15, 1] _ rfl)).mono ?_
  rintro e w1 ⟨rfl, hB1⟩
  have hBw1 : Below w.heap.size w w1 := ((Below.refl _ w).alloc (Nat.le_refl _) _).trans (hB1.mono (by simp))
  go_wp2_with fail
  refine (HT0.out _).mono ?_
  rintro e w2 ⟨v2, rfl, hown2, hB2⟩
  obtain ⟨p2, c2, rfl, hn2, hc2a, hc2b⟩ := NumsAt.of_owns hown2 rfl
  have hBw2 : Below w.heap.size w w2 := hBw1.trans (hB2.mono hBw1.size)
  have HN2 := hide' hn2
  clear hown2 hn2
  go_wp2_with fail
  refine (sameNumbers_same _ _ 3 _ _ [1, 15, 46] _ rfl (HN2.out.below ((Below.refl _ w2).alloc (Nat.le_refl _) _)) (nums_new w2 [1, 15, 46] _ rfl) (by decide)).mono ?_
  rintro e w3 ⟨rfl, hB3⟩
  have hBw3 : Below w.heap.size w w3 := (hBw2.alloc hBw2.size _).trans (hB3.mono (by have := hBw2.size; simp; omega))
  go_wp2_with fail
  refine (HS1.out _ _ _ hL hlc hc (HAT.out.below hBw3)).mono ?_
  rintro e w4 ⟨rfl, hB4⟩
  have hBw4 : Below w.heap.size w w4 := hBw3.trans (hB4.mono hBw3.size)
  go_wp2_with fail
  refine (HT1.out _).mono ?_
  rintro e w5 ⟨v5, rfl, hown5, hB5⟩
  obtain ⟨p5, c5, rfl, hn5, hc5a, hc5b⟩ := NumsAt.of_owns hown5 rfl
  have hBw5 : Below w.heap.size w w5 := hBw4.trans (hB5.mono hBw4.size)
  have HN5 := hide' hn5
  clear hown5 hn5
  go_wp2_with fail
  have hUl : (U.map (fun n : Nat => (n : Int))).length = U.length := by simp
  have HS2' := hide' (HS2.out p5 c5 w5 (by omega) (by omega) hc5b (ZAt.of_nums HN5.out))
  rw [hUl] at HS2'
  clear hUl
  refine (HS2'.out).mono ?_
  rintro e w6 ⟨rfl, hB6⟩
  have hBw6 : Below w.heap.size w w6 := hBw5.trans (hB6.mono hBw5.size)
  have HN6 := hide' (HN5.out.below hB6)
  have HAT6 := hide' (HAT.out.below hBw6)
  clear HS0 HS1 HS2 HT0 HT1 HN2 HN5 HAT HS2'
  go_wp2_with fail
  obtain ⟨wb, hwb⟩ : ∃ wb, w6 = wb := ⟨_, rfl⟩
  go_loopw [8, 45] (fun bv iv wr => ∃ (k : Nat) (b : Bool), iv = .int .i64 k ∧ bv = .bool b ∧ k ≤ L.length ∧ Hid (b = true ↔ ask ∈ L.take k ∧ isTy ask = true) ∧ Below w6.heap.size w6 wr) (fun _ iv _ => L.length - (intOf iv).toNat)
  case atStart => exact ⟨0, false, rfl, rfl, Nat.zero_le _, (by simp [Hid]), Below.refl _ _⟩
  case round =>
    obtain ⟨k, b, rfl, rfl, hk, HB, hBr⟩ := hrel
    by_cases hlt : k < L.length
    · obtain ⟨g, off, rfl, hg, hcell⟩ := HAT6.out k hlt
      have hcell' := (hBr.cell (p := ⟨g, off + k, none⟩) hg).trans hcell
      obtain ⟨t, ht⟩ : ∃ t, L[k] = t := ⟨_, rfl⟩
      rw [ht] at hcell'
      clear hcell
      have HK : Hid (∀ b' : Bool, (b' = true ↔ b = true ∨ (ask = t ∧ isTy ask = true)) → (b' = true ↔ ask ∈ L.take (k + 1) ∧ isTy ask = true)) := fun b' h => by
        rw [h, HB.out, List.take_succ_eq_append_getElem hlt, List.mem_append, List.mem_singleton, ht]
        constructor
        · rintro (⟨h1, h2⟩ | ⟨h1, h2⟩)
          · exact ⟨.inl h1, h2⟩
          · exact ⟨.inr h1, h2⟩
        · rintro ⟨h1 | h1, h2⟩
          · exact .inl ⟨h1, h2⟩
          · exact .inr ⟨h1, h2⟩
      clear HB ht
      cases b with
      | true =>
        have HF := hide' (HK.out true (by simp))
        clear HK
        go_wp2
        exact ⟨⟨k + 1, true, rfl, rfl, by omega, HF, hBr⟩, by show L.length - ((k : Int) + 1).toNat < L.length - (k : Int).toNat; omega⟩
      | false =>
        by_cases h1 : t = ask
        · subst h1
          by_cases h2 : 1 ≤ t
          · by_cases h3 : t ≤ 65535
            · have HF := hide' (HK.out true (by simp [isTy]; omega))
              clear HK
              go_wp2
              exact ⟨⟨k + 1, true, rfl, rfl, by omega, HF, hBr⟩, by show L.length - ((k : Int) + 1).toNat < L.length - (k : Int).toNat; omega⟩
            · have HF := hide' (HK.out false (by simp [isTy]; omega))
              clear HK
              go_wp2
              exact ⟨⟨k + 1, false, rfl, rfl, by omega, HF, hBr⟩, by show L.length - ((k : Int) + 1).toNat < L.length - (k : Int).toNat; omega⟩
          · have HF := hide' (HK.out false (by simp [isTy]; omega))
            clear HK
            go_wp2
            exact ⟨⟨k + 1, false, rfl, rfl, by omega, HF, hBr⟩, by show L.length - ((k : Int) + 1).toNat < L.length - (k : Int).toNat; omega⟩
        · have HF := hide' (HK.out false (by simp; intro h; exact absurd h.symm h1))
          clear HK
          go_wp2
          exact ⟨⟨k + 1, false, rfl, rfl, by omega, HF, hBr⟩, by show L.length - ((k : Int) + 1).toNat < L.length - (k : Int).toNat; omega⟩
    · have hke : k = L.length := by omega
      subst hke
      have HB2 : Hid (b = true ↔ ask ∈ L ∧ isTy ask = true) := by have := HB.out; rw [List.take_length] at this; exact this
      clear HB
      go_wp2
      obtain ⟨wo, hwo⟩ : ∃ wo, wr = wo := ⟨_, rfl⟩
      have hBwo : Below w.heap.size w wo := hwo ▸ hBw6.trans (hBr.mono hBw6.size)
      have HNo : Hid (NumsAt wo p5 U) := hwo ▸ HN6.out.below hBr
      rw [hwo]
      clear hwo hBr HN6 HAT6
      go_loopw [9, 66] (fun bv iv wr => ∃ (k : Nat) (c : Bool), iv = .int .i64 k ∧ bv = .bool c ∧ k ≤ U.length ∧ Hid (c = true ↔ ∃ n : Nat, ask = (n : Int) ∧ n ∈ U.take k) ∧ Below wo.heap.size wo wr) (fun _ iv _ => U.length - (intOf iv).toNat)
      case atStart => exact ⟨0, false, rfl, rfl, Nat.zero_le _, (by simp [Hid]), Below.refl _ _⟩
      case round =>
        obtain ⟨k, c, rfl, rfl, hk, HC, hBr⟩ := hrel
        by_cases hlt : k < U.length
        · obtain ⟨g, off, rfl, hg, hcell⟩ := HNo.out k hlt
          have hcell' := (hBr.cell (p := ⟨g, off + k, none⟩) hg).trans hcell
          obtain ⟨t, ht⟩ : ∃ t, U[k] = t := ⟨_, rfl⟩
          rw [ht] at hcell'
          clear hcell
          have HK : Hid (∀ c' : Bool, (c' = true ↔ c = true ∨ ask = (t : Int)) → (c' = true ↔ ∃ n : Nat, ask = (n : Int) ∧ n ∈ U.take (k + 1))) := fun c' h => by
            rw [h, HC.out, List.take_succ_eq_append_getElem hlt, ht]
            constructor
            · rintro (⟨n, h1, h2⟩ | h1)
              · exact ⟨n, h1, List.mem_append_left _ h2⟩
              · exact ⟨t, h1, by simp⟩
            · rintro ⟨n, h1, h2⟩
              rcases List.mem_append.1 h2 with h2 | h2
              · exact .inl ⟨n, h1, h2⟩
              · rw [List.mem_singleton] at h2; subst h2; exact .inr h1
          obtain ⟨c', hc', HF⟩ : ∃ c' : Bool, (c || decide ((t : Int) = ask)) = c' ∧ Hid (c' = true ↔ ∃ n : Nat, ask = (n : Int) ∧ n ∈ U.take (k + 1)) := ⟨_, rfl, HK.out _ (by rw [Bool.or_eq_true, decide_eq_true_iff]; exact ⟨fun h => h.imp id Eq.symm, fun h => h.imp id Eq.symm⟩)⟩
          have hpr : ∀ k', k = k' + 1 → ∃ z : Nat, wr.cell? ⟨g, off + k', none⟩ = some (.int .i64 (z : Int)) ∧ z < t := fun k' hk' => by
            obtain ⟨g2, off2, hp2, hg2, hcell2⟩ := HNo.out k' (by omega)
            simp at hp2
            obtain ⟨rfl, rfl⟩ := hp2
            refine ⟨U[k'], (hBr.cell (p := ⟨g, off + k', none⟩) hg).trans hcell2, ?_⟩
            rw [← ht]; exact List.pairwise_iff_getElem.1 HU2.out k' k (by omega) hlt (by omega)
          clear HK HC ht
          cases k with
          | zero =>
            clear hpr
            rw [Nat.add_zero] at hcell'
            cases c with
            | true =>
              obtain rfl : true = c' := by simpa using hc'
              clear hc'
              go_wp2
              exact ⟨⟨0 + 1, true, rfl, rfl, by omega, HF, hBr⟩, by show U.length - (((0 : Nat) : Int) + 1).toNat < U.length - ((0 : Nat) : Int).toNat; omega⟩
            | false =>
              by_cases h1 : (t : Int) = ask
              · obtain rfl : true = c' := by simpa [h1] using hc'
                clear hc'
                go_wp2
                exact ⟨⟨0 + 1, true, rfl, rfl, by omega, HF, hBr⟩, by show U.length - (((0 : Nat) : Int) + 1).toNat < U.length - ((0 : Nat) : Int).toNat; omega⟩
              · obtain rfl : false = c' := by simpa [h1] using hc'
                clear hc'
                have h1' : ((t : Int) == ask) = false := by rw [beq_eq_false_iff_ne]; exact h1
                go_wp2
                exact ⟨⟨0 + 1, false, rfl, rfl, by omega, HF, hBr⟩, by show U.length - (((0 : Nat) : Int) + 1).toNat < U.length - ((0 : Nat) : Int).toNat; omega⟩
          | succ k =>
            obtain ⟨z, hz1, hz2⟩ := hpr k rfl
            clear hpr
            cases c with
            | true =>
              obtain rfl : true = c' := by simpa using hc'
              clear hc'
              go_wp2
              exact ⟨⟨(k + 1) + 1, true, rfl, rfl, by omega, HF, hBr⟩, by show U.length - ((((k + 1) : Nat) : Int) + 1).toNat < U.length - (((k + 1) : Nat) : Int).toNat; omega⟩
            | false =>
              by_cases h1 : (t : Int) = ask
              · obtain rfl : true = c' := by simpa [h1] using hc'
                clear hc'
                go_wp2
                exact ⟨⟨(k + 1) + 1, true, rfl, rfl, by omega, HF, hBr⟩, by show U.length - ((((k + 1) : Nat) : Int) + 1).toNat < U.length - (((k + 1) : Nat) : Int).toNat; omega⟩
              · obtain rfl : false = c' := by simpa [h1] using hc'
                clear hc'
                have h1' : ((t : Int) == ask) = false := by rw [beq_eq_false_iff_ne]; exact h1
                go_wp2
                exact ⟨⟨(k + 1) + 1, false, rfl, rfl, by omega, HF, hBr⟩, by show U.length - ((((k + 1) : Nat) : Int) + 1).toNat < U.length - (((k + 1) : Nat) : Int).toNat; omega⟩
        · have hke : k = U.length := by omega
          subst hke
          have hbc : b = c := by
            have h1 := HB2.out
            have h2 := HC.out
            rw [List.take_length] at h2
            rw [Bool.eq_iff_iff, h1, h2]
            constructor
            · rintro ⟨a1, a2⟩
              have hb := of_decide_eq_true a2
              refine ⟨ask.toNat, by omega, (HU3.out _).2 ?_⟩
              rw [show ((ask.toNat : Nat) : Int) = ask by omega]; exact ⟨a1, a2⟩
            · rintro ⟨n, rfl, a2⟩; exact (HU3.out n).1 a2
          subst hbc
          clear HB2 HC
          cases b
          all_goals
            go_wp2
            go_ret
            exact ⟨rfl, hBwo.trans (hBr.mono hBwo.size)⟩
end Go.Proofs.Ytfofdcacikbflaa
