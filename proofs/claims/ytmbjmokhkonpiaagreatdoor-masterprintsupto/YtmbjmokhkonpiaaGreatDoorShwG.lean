import Derived.Test.YtmbjmokhkonpiaaGreatDoorCmpG
import Derived.Test.YtmbjmokhkonpiaaGreatDoorMath13G
import Derived.Laws.Runes
namespace Go.Proofs.YtmbjmokhkonpiaaGreatDoor
set_option linter.unusedVariables false
open Go.RowKit Go.Shelf Go.Proofs.YtmbjmokhkonpiaaGreatDoor.Nm

abbrev byts (l : List Nat) : List Value := l.map (fun x : Nat => Value.int .u8 (x : Int))

set_option maxRecDepth 100000 in
set_option maxHeartbeats 1000000 in
/-- gazetteerref1.among -/
theorem among_any (b : Nat) (s : ByteArray) (w : World) (hs : s.size ≤ 1048576) :
    Calls Tryz.prog 41 #[.int .u8 (b : Int), .string s] w fun e w' => e = .returned (.bool (amB s b)) ∧ w' = w := by
  go_enter Tryz.func41, Tryz.ntmps41
  go_wp2
  go_loop [5] (fun i => ∃ k : Nat, i = .int .i64 k ∧ k ≤ s.size ∧ Hid (∀ j, j < k → bt s j ≠ b)) (fun i => s.size - (intOf i).toNat)
  case atStart => exact ⟨0, rfl, Nat.zero_le _, fun j hj => absurd hj (Nat.not_lt_zero _)⟩
  case round =>
    obtain ⟨k, rfl, hk, HN⟩ := hrel
    by_cases hlt : k < s.size
    · obtain ⟨y, hy, HY, hy256⟩ := bt_wrap hlt
      by_cases he : y = b
      · have HT : Hid (amB s b = true) := amB_true hlt (by rw [HY, he])
        have he' : ((y : Int) == (b : Int)) = true := by rw [beq_iff_eq]; omega
        clear he HY
        go_wp2
        go_ret
        exact ⟨by rw [HT.out]; rfl, rfl⟩
      · have HN2 : Hid (∀ j, j < k + 1 → bt s j ≠ b) := by
          intro j hj
          by_cases e : j = k
          · subst e; rw [HY]; exact he
          · exact HN.out j (by omega)
        have he' : ((y : Int) == (b : Int)) = false := by rw [beq_eq_false_iff_ne]; omega
        clear he HY
        go_wp2
        go_round
        case rel => exact ⟨k + 1, by go_num, hlt, HN2⟩
        case measure => simp [intOf]; omega
    · have HT : Hid (amB s b = false) := amB_false (fun j hj => HN.out j (by omega))
      go_wp2
      go_ret
      exact ⟨by rw [HT.out]; rfl, rfl⟩

/-- 'string([]byte{a, b, c})' -/
theorem three_bytes (W : World) (a b c : Nat) (ha : a < 256) (hb : b < 256) (hc : c < 256) :
    (convert 34 9 (.slice (some ⟨W.heap.size, 0, none⟩) 3 3)).run Tryz.prog (W.alloc (.cells #[.int .u8 (a : Int), .int .u8 (b : Int), .int .u8 (c : Int)] 5)) = .ok (.string (bts [a, b, c])) (W.alloc (.cells #[.int .u8 (a : Int), .int .u8 (b : Int), .int .u8 (c : Int)] 5)) := by
  have hg : (W.alloc (.cells #[.int .u8 (a : Int), .int .u8 (b : Int), .int .u8 (c : Int)] 5)).heap[W.heap.size]? = some (.cells #[.int .u8 (a : Int), .int .u8 (b : Int), .int .u8 (c : Int)] 5 (0, 0)) := World.alloc_heap_new W _
  have hlt : ∀ x ∈ [a, b, c], x < 256 := by intro x hx; simp at hx; omega
  refine HoldsB.str (t := bts [a, b, c]) (f := fun j => [a, b, c].getD j 0) ⟨by simp, fun j hj => ?_, fun j hj => ?_⟩ (fun j hj => ?_) 3
  · have hj' : j < 3 := by rw [bts_size] at hj; exact hj
    have : j = 0 ∨ j = 1 ∨ j = 2 := by omega
    unfold World.cell?
    rw [hg]
    rcases this with rfl | rfl | rfl <;> rfl
  · unfold World.frozen?
    rw [hg]; simp
  · have hj' : j < 3 := by rw [bts_size] at hj; exact hj
    rw [bts_bt _ hlt j hj']
    simp [List.getD_eq_getElem?_getD, List.getElem?_eq_getElem (show j < [a, b, c].length from hj')]

set_option maxHeartbeats 1000000 in
/-- gazetteerref1.Escape -/
theorem escape_any (b : Nat) (w : World) (hb : b < 256) :
    Calls Tryz.prog 42 #[.int .u8 (b : Int)] w fun e w' => e = .returned (.string (bts (escL b))) ∧ Below w.heap.size w w' := by
  have HE : Hid (⟨#[92]⟩ ++ bts [48 + b / 100, 48 + b / 10 % 10, 48 + b % 10] = bts (escL b)) := by
    unfold Hid
    have := bts_append [92] [48 + b / 100, 48 + b / 10 % 10, 48 + b % 10]
    exact this.symm
  have hcv : ∀ W : World, _ := fun W => three_bytes W (48 + b / 100) (48 + b / 10 % 10) (48 + b % 10) (by omega) (by omega) (by omega)
  have e1 : ((48 + b / 100 : Nat) : Int) = 48 + (b : Int) / 100 := by omega
  have e2 : ((48 + b / 10 % 10 : Nat) : Int) = 48 + (b : Int) / 10 % 10 := by omega
  have e3 : ((48 + b % 10 : Nat) : Int) = 48 + (b : Int) % 10 := by omega
  simp only [e1, e2, e3] at hcv
  clear e1 e2 e3
  have had : ∀ W : World, (Op.stringOp .add ⟨#[92]⟩ (bts [48 + b / 100, 48 + b / 10 % 10, 48 + b % 10])).run Tryz.prog W = .ok (.string (bts (escL b))) W := fun W => by
    rw [← HE.out]; exact run_string_add_sum W _ _ (by rw [bts_size, show (⟨#[92]⟩ : ByteArray).size = 1 from rfl]; simp)
  go_enter Tryz.func42, Tryz.ntmps42
  go_wp2
  go_ret
  exact ⟨rfl, (Below.refl _ _).alloc (Nat.le_refl _) _⟩

set_option maxRecDepth 100000 in
/-- strings.IndexByte -/
theorem slIndex_any (s : ByteArray) (c : Int) (w : World) :
    Calls Tryz.prog 68 #[.string s, .int .u8 c] w fun e w' => e = .returned (.int .i64 (Lib.indexByte s.data.toList c.toNat.toUInt8)) ∧ w' = w := by
  go_enter Tryz.func68, Tryz.ntmps68
  go_wp2
  rw [run_callFunc_extern Tryz.func77 (by kernel_rfl) (by kernel_rfl) (by kernel_rfl) (e := Extern.BytealgIndexByte.indexByte) (by kernel_rfl), Lib.run_indexByteString]
  simp only [Result.andThen]
  rw [Oper.upon_value]
  go_wp2
  go_ret
  exact ⟨rfl, rfl⟩
theorem index_nonneg (s : ByteArray) (b : Nat) (hb : b < 256) : decide (0 ≤ Lib.indexByte s.data.toList (b : Int).toNat.toUInt8) = amB s b := by
  rw [← Lib.firstIdx_eq, firstIdx_nonneg]
  have hc : ((b : Int).toNat.toUInt8).toNat = b := by
    show (UInt8.ofNat b).toNat = b
    rw [UInt8.toNat_ofNat']; omega
  rw [Bool.eq_iff_iff]
  constructor
  · intro h
    obtain ⟨x, hx, he⟩ := List.any_eq_true.1 h
    obtain ⟨j, hj, rfl⟩ := List.getElem_of_mem hx
    have hj' : j < s.size := by simpa using hj
    refine amB_true hj' ?_
    rw [← bt_list s j hj', eq_of_beq he, hc]
  · intro h
    unfold amB at h
    obtain ⟨j, hj, he⟩ := List.any_eq_true.1 h
    have hj' := List.mem_range.1 hj
    refine List.any_eq_true.2 ⟨s.data.toList[j]'(by simpa using hj'), List.getElem_mem _, ?_⟩
    rw [beq_iff_eq]
    apply UInt8.toNat_inj.1
    rw [bt_list s j hj', eq_of_beq he, hc]
set_option maxRecDepth 100000 in
theorem indexByte_any (s : ByteArray) (b : Nat) (w : World) (hb : b < 256) :
    Calls Tryz.prog 52 #[.string s, .int .u8 (b : Int)] w fun e w' => ∃ i : Int, e = .returned (.int .i64 i) ∧ decide (0 ≤ i) = amB s b ∧ w' = w := by
  have HX : Hid (decide (0 ≤ Lib.indexByte s.data.toList (b : Int).toNat.toUInt8) = amB s b) := index_nonneg s b hb
  generalize hI : Lib.indexByte s.data.toList (b : Int).toNat.toUInt8 = I at *
  have HI : Hid (Lib.indexByte s.data.toList (b : Int).toNat.toUInt8 = I) := hI
  clear hI
  go_enter Tryz.func52, Tryz.ntmps52
  go_wp2_with (go_at_call 68; refine (slIndex_any _ _ _).mono ?_; rintro e w1 ⟨rfl, rfl⟩; rw [HI.out])
  go_ret
  exact ⟨_, rfl, HX.out, rfl⟩

theorem keeps_app {w2 w3 : World} {o : Obj} {ov : Value} {base e size n : Nat} {xs : List Value} (hown : w2.ownsRow base e size ov n xs) (hg : (w2.alloc o).grownBy w3 ov.ownBlock) : KeepsOthers w2 w3 := by
  refine (KeepsOthers.alloc w2 o).trans (KeepsOthers.of_grownBy hg fun j ob ej hj => ?_)
  rcases (hown.alloc o).2 with ⟨rfl, _⟩ | ⟨g, cap, cur, rfl, _, hgb, _⟩
  · simp [Value.ownBlock] at ej
  · obtain rfl : g = j := by simpa [Value.ownBlock] using ej
    rw [hgb] at hj; cases hj; rfl

theorem four_new (w : World) (a b c d : Value) (t : TypeId) : ∀ j u, [a, b, c, d][j]? = some u → (w.alloc (.cells #[a, b, c, d] t)).cell? ((⟨w.heap.size, 0, none⟩ : Addr).add j) = some u := by
  intro j u hj
  match j, hj with
  | 0, hj => simp at hj; subst hj; simp [Addr.add]
  | 1, hj => simp at hj; subst hj; simp [Addr.add]
  | 2, hj => simp at hj; subst hj; simp [Addr.add]
  | 3, hj => simp at hj; subst hj; simp [Addr.add]
  | j + 4, hj => simp at hj

set_option maxRecDepth 100000 in
set_option maxHeartbeats 1000000 in
/-- spell.Append -/
theorem append_any (v : Value) (n base b f : Nat) (m : ByteArray) (xs : List Value) (w : World) (hown : w.ownsRow base 5 1 v n xs) (hb : b < 256) (hf : f < 256) (hn : n ≤ 1048576) (hbase : base ≤ w.heap.size) :
    Calls Tryz.prog 29 #[v, .int .u8 (b : Int), .int .u8 (f : Int), .string m] w fun e w' => ∃ v', e = .returned v' ∧ w'.ownsRow base 5 1 v' (n + (shG f m b).length) (xs ++ (shG f m b).map (fun x : Nat => Value.int .u8 (x : Int))) ∧ Below base w w' ∧ KeepsOthers w w' := by
  obtain ⟨i0, hi, hz0, hz1, hz2⟩ := info_parts Tryz.infoByte
  by_cases hesc : b < f ∨ 126 < b
  · have HS : Hid (shG f m b = escL b) := shG_esc hesc
    have HM : Hid ((escL b).map (fun x : Nat => Value.int .u8 (x : Int)) = [.int .u8 92, .int .u8 (48 + (b : Int) / 100), .int .u8 (48 + (b : Int) / 10 % 10), .int .u8 (48 + (b : Int) % 10)]) := by
      unfold Hid escL; simp
    rcases (show b < f ∨ (f ≤ b ∧ 126 < b) by omega) with h | ⟨h, h'⟩
    all_goals
      go_enter Tryz.func29, Tryz.ntmps29
      go_wp2_with (at_builtin; refine wpList_append_own _ rfl _ _ 34 rfl base 5 i0 (.int .u8 0) 1 1 Tryz.underlying34 hi hz0 hz1 hz2 rfl (by decide) _ _ _ rfl (hown.alloc _) ⟨w.heap.size, 0, none⟩ 4 4 [.int .u8 92, .int .u8 (48 + (b : Int) / 100), .int .u8 (48 + (b : Int) / 10 % 10), .int .u8 (48 + (b : Int) % 10)] rfl rfl (four_new _ _ _ _ _ _) (by simp [Value.oneCell']) (by unfold maxLen; omega) (by omega) (by simp; omega) ?_; intro v' w4 hown' hgrow _)
      go_ret
      rw [HS.out, HM.out]
      exact ⟨_, rfl, hown', below_app (Below.refl _ _) hbase hown hgrow, keeps_app hown hgrow⟩
  · have h1 : f ≤ b := by omega
    have h2 : b ≤ 126 := by omega
    cases hm : amB m b with
    | true =>
      have HS : Hid (shG f m b = [92, b]) := shG_marked hesc hm
      clear hesc
      go_enter Tryz.func29, Tryz.ntmps29
      go_wp2_with (first
        | (go_at_call 52; refine (indexByte_any m b _ hb).mono ?_; rintro e w1 ⟨i, rfl, hi2, rfl⟩; rw [hm] at hi2; have hi3 : 0 ≤ i := of_decide_eq_true hi2; clear hi2)
        | (at_builtin; refine wpList_append_own _ rfl _ _ 34 rfl base 5 i0 (.int .u8 0) 1 1 Tryz.underlying34 hi hz0 hz1 hz2 rfl (by decide) _ _ _ rfl (hown.alloc _) ⟨_, 0, none⟩ 1 1 [.int .u8 92] rfl rfl (cell_one_new _ _ _) (by simp [Value.oneCell']) (by unfold maxLen; omega) (by omega) (by simp; omega) ?_; intro v4 w4 hown4 hgrow4 _; have hB4 := below_app (Below.refl _ _) hbase hown hgrow4; have hK4 := keeps_app hown hgrow4; clear hown)
        | (at_builtin; refine wpList_append_own _ rfl _ _ 34 rfl base 5 i0 (.int .u8 0) 1 1 Tryz.underlying34 hi hz0 hz1 hz2 rfl (by decide) _ _ _ rfl (hown4.alloc _) ⟨_, 0, none⟩ 1 1 [.int .u8 (b : Int)] rfl rfl (cell_one_new _ _ _) (by simp [Value.oneCell']) (by unfold maxLen; omega) (by omega) (by have := hB4.size; simp; omega) ?_; intro v5 w5 hown5 hgrow5 _; have hB5 := below_app hB4 hbase hown4 hgrow5; have hK5 := keeps_app hown4 hgrow5))
      go_ret
      rw [HS.out]
      exact ⟨_, rfl, by simpa [List.append_assoc] using hown5, hB5, hK4.trans hK5⟩
    | false =>
      have HS : Hid (shG f m b = [b]) := shG_plain hesc hm
      clear hesc
      go_enter Tryz.func29, Tryz.ntmps29
      go_wp2_with (first
        | (go_at_call 52; refine (indexByte_any m b _ hb).mono ?_; rintro e w1 ⟨i, rfl, hi2, rfl⟩; rw [hm] at hi2; have hi3 : ¬ 0 ≤ i := of_decide_eq_false hi2; clear hi2)
        | (at_builtin; refine wpList_append_own _ rfl _ _ 34 rfl base 5 i0 (.int .u8 0) 1 1 Tryz.underlying34 hi hz0 hz1 hz2 rfl (by decide) _ _ _ rfl (hown.alloc _) ⟨_, 0, none⟩ 1 1 [.int .u8 (b : Int)] rfl rfl (cell_one_new _ _ _) (by simp [Value.oneCell']) (by unfold maxLen; omega) (by omega) (by simp; omega) ?_; intro v4 w4 hown4 hgrow4 _; have hB4 := below_app (Below.refl _ _) hbase hown hgrow4; have hK4 := keeps_app hown hgrow4))
      go_ret
      rw [HS.out]
      exact ⟨_, rfl, by simpa using hown4, hB4, hK4⟩
end Go.Proofs.YtmbjmokhkonpiaaGreatDoor

namespace Go.Proofs.YtmbjmokhkonpiaaGreatDoor
set_option linter.unusedVariables false
open Go.RowKit Go.Shelf Go.Proofs.YtmbjmokhkonpiaaGreatDoor.Nm

theorem extract_one {X : ByteArray} {k : Nat} (h : k < X.size) : X.extract k (k + 1) = bts [bt X k] := by
  apply ba_ext
  · rw [size_extract' _ _ _ (by omega), bts_size]; simp
  · intro j hj
    rw [size_extract' _ _ _ (by omega)] at hj
    have : j = 0 := by omega
    subst this
    rw [bt_extract _ _ _ _ (by omega) (by omega), bts_bt _ (by intro x hx; simp at hx; rw [hx]; exact bt_lt X k) 0 (by simp)]
    rfl
theorem add_bts (W : World) (l m : List Nat) (h : l.length + m.length ≤ 4294967296) : (Op.stringOp .add (bts l) (bts m)).run Tryz.prog W = .ok (.string (bts (l ++ m))) W := by
  rw [bts_append]; exact run_string_add_sum W _ _ (by rw [bts_size, bts_size]; omega)

set_option maxRecDepth 100000 in
set_option maxHeartbeats 2000000 in
/-- gazetteerref1.ShowName -/
theorem showName_any (s : ByteArray) (w : World) (hs : s.size ≤ 1048576) :
    Calls Tryz.prog 19 #[.string s] w fun e w' => e = .returned (.string (showB s)) ∧ Below w.heap.size w w' := by
  cases hN : isN s with
  | false =>
    have HT : Hid (showB s = ByteArray.empty) := showB_no hN
    go_enter Tryz.func19, Tryz.ntmps19
    go_wp2_with (go_at_call 40; refine (split_no s _ hs hN).mono ?_; rintro e w1 ⟨v, rfl, hB1⟩)
    go_ret
    exact ⟨by rw [HT.out]; rfl, hB1⟩
  | true =>
    have hl := labs_len_le hN
    by_cases h0 : (labs s).length = 0
    · have HT : Hid (showB s = bts [46]) := showB_root hN h0
      have h0' : (((labs s).length : Int) == 0) = true := by rw [beq_iff_eq]; omega
      clear h0
      go_enter Tryz.func19, Tryz.ntmps19
      go_wp2_with (go_at_call 40; refine (split_yes s _ hs hN).mono ?_; rintro e w1 ⟨p, cap, rfl, _, hB1⟩)
      go_ret
      exact ⟨by rw [HT.out]; rfl, hB1⟩
    · have HT : Hid (showB s = bts (shAll (labs s))) := showB_yes hN (by omega)
      have h0' : (((labs s).length : Int) == 0) = false := by rw [beq_eq_false_iff_ne]; omega
      have HM : Hid (∀ x ∈ labs s, x.size ≤ 63) := fun x hx => (labs_mem hx).2
      have HLEN : Hid (∀ i, (shAll ((labs s).take i)).length ≤ 1020) := by
        intro i
        have h1 := shAll_len ((labs s).take i)
        have h2 := chunks_size_take (labs s) i
        have h3 := putB_size (labs s)
        rw [putB_labs hN] at h3
        have h4 := ((isN_iff s).1 hN).1
        omega
      clear h0
      go_enter Tryz.func19, Tryz.ntmps19
      go_wp2_with (go_at_call 40; refine (split_yes s _ hs hN).mono ?_; rintro e w1 ⟨p, cap, rfl, ⟨hc, _⟩, hB1⟩)
      go_loopw [5, 21] (fun sv i wr => ∃ k : Nat, i = .int .i64 k ∧ k ≤ (labs s).length ∧ sv = .string (bts (shAll ((labs s).take k))) ∧ Below w1.heap.size w1 wr)
        (fun _ i _ => (labs s).length - (intOf i).toNat)
      case atStart => exact ⟨0, rfl, Nat.zero_le _, rfl, Below.refl _ _⟩
      case round =>
        obtain ⟨k, rfl, hk, rfl, hB⟩ := hrel
        by_cases hlt : k < (labs s).length
        · obtain ⟨g, off, rfl, hg, hcell0⟩ := hc k hlt
          have hcell := (hB.cell (p := ⟨g, off + k, none⟩) hg).trans hcell0
          have hx63 := HM.out _ (List.getElem_mem hlt)
          have HSN : Hid (shAll ((labs s).take (k + 1)) = shAll ((labs s).take k) ++ shLab (labs s)[k]) := by
            unfold Hid; rw [List.take_succ_eq_append_getElem hlt, shAll_snoc]
          have HA : Hid ((shAll ((labs s).take k)).length ≤ 1020) := HLEN.out k
          generalize (labs s)[k] = X at *
          generalize hAc : shAll ((labs s).take k) = A at *
          have HAc : Hid (shAll ((labs s).take k) = A) := hAc
          clear hcell0 hAc
          obtain ⟨wo, rfl⟩ : ∃ wo, wo = wr := ⟨_, rfl⟩
          go_wp2
          go_loopw [5, 8] (fun sv i wr => ∃ j : Nat, i = .int .i64 j ∧ j ≤ X.size ∧ sv = .string (bts (A ++ shTo X j)) ∧ Below w1.heap.size w1 wr)
            (fun _ i _ => X.size - (intOf i).toNat)
          case atStart => exact ⟨0, rfl, Nat.zero_le _, by simp [shTo], hB⟩
          case round =>
            obtain ⟨j, rfl, hj, rfl, hBr⟩ := hrel
            have HTL : Hid ((shTo X j).length ≤ 4 * j) := shTo_len X j
            by_cases hjlt : j < X.size
            · obtain ⟨y, hy, HY, hy256⟩ := bt_wrap hjlt
              have HE : Hid (X.extract j (j + 1) = bts [y]) := by unfold Hid; rw [extract_one hjlt, HY]
              have HST : Hid (A ++ shTo X j ++ shL y = A ++ shTo X (j + 1)) := by unfold Hid; rw [← HY]; simp [shTo]
              have hex : ∀ W : World, (Op.stringOp .add (bts (A ++ shTo X j)) (bts (shL y))).run Tryz.prog W = .ok (.string (bts (A ++ shTo X (j + 1)))) W := fun W => by
                rw [← HST.out]
                refine add_bts W _ _ ?_
                have := HA.out; have := HTL.out; have := (shL_len y).2
                rw [List.length_append]; omega
              clear HY
              cases hm : amB marks y with
              | true =>
                have HS := shL_marked hm
                rw [HS] at hex
                have ha1 : ∀ W : World, (Op.stringOp .add ⟨#[92]⟩ (X.extract j (j + 1))).run Tryz.prog W = .ok (.string (bts [92, y])) W := fun W => by
                  rw [HE.out]; exact add_bts W [92] [y] (by simp)
                clear HS
                go_wp2_with (go_at_call 41; refine (among_any y marks _ (by decide)).mono ?_; rintro e w2 ⟨rfl, rfl⟩; rw [hm])
                refine ⟨⟨j + 1, by go_num, hjlt, rfl, hBr⟩, ?_⟩
                simp [intOf]; omega
              | false =>
                by_cases hesc : y < 33 ∨ 126 < y
                · have HS := shL_esc hesc
                  rw [HS] at hex
                  clear HS
                  rcases hesc with h | h
                  all_goals
                    go_wp2_with (first
                      | (go_at_call 41; refine (among_any y marks _ (by decide)).mono ?_; rintro e w2 ⟨rfl, rfl⟩; rw [hm])
                      | (go_at_call 42; refine (escape_any y _ hy256).mono ?_; rintro e w3 ⟨rfl, hB3⟩))
                    refine ⟨⟨j + 1, by go_num, hjlt, rfl, bstep hBr hB3 hBr.size⟩, ?_⟩
                    simp [intOf]; omega
                · have h1 : 33 ≤ y := by omega
                  have h2 : y ≤ 126 := by omega
                  have HS := shL_plain hm h1 h2
                  rw [HS, ← HE.out] at hex
                  clear HS hesc
                  go_wp2_with (go_at_call 41; refine (among_any y marks _ (by decide)).mono ?_; rintro e w2 ⟨rfl, rfl⟩; rw [hm])
                  refine ⟨⟨j + 1, by go_num, hjlt, rfl, hBr⟩, ?_⟩
                  simp [intOf]; omega
            · have HJ : Hid (A ++ shTo X j ++ [46] = shAll ((labs s).take (k + 1))) := by
                unfold Hid; rw [HSN.out, shLab, show j = X.size by omega, List.append_assoc]
              have hex : ∀ W : World, (Op.stringOp .add (bts (A ++ shTo X j)) ⟨#[46]⟩).run Tryz.prog W = .ok (.string (bts (shAll ((labs s).take (k + 1))))) W := fun W => by
                rw [← HJ.out]
                refine add_bts W _ [46] ?_
                have := HA.out; have := HTL.out
                rw [List.length_append]; simp; omega
              go_wp2
              go_roundw
              case rel => exact ⟨k + 1, by go_num, hlt, rfl, hBr⟩
              case measure => simp [intOf]; omega
        · have HK : Hid ((labs s).take k = labs s) := List.take_of_length_le (by omega)
          go_wp2
          go_ret
          exact ⟨by rw [HT.out, HK.out]; rfl, hB1.trans (hB.mono hB1.size)⟩
end Go.Proofs.YtmbjmokhkonpiaaGreatDoor

namespace Go.Proofs.YtmbjmokhkonpiaaGreatDoor
set_option linter.unusedVariables false
open Go.RowKit Go.Shelf Go.Proofs.YtmbjmokhkonpiaaGreatDoor.Nm
attribute [local go_sem] Oper.semAt_some

theorem root_iff {s : ByteArray} (h : isN s = true) : (s.toList == [0]) = decide ((labs s).length = 0) := by
  have e : s.toList = (s.extract 0 s.size).toList := by rw [ByteArray.extract_zero_size]
  rw [e, zero_end s 0 (Nat.zero_le _)]
  by_cases hl : (labs s).length = 0
  · have := isStar_short h hl
    rw [decide_eq_true hl, decide_eq_true ⟨by omega, this.1⟩]
  · have := isStar_long h (by omega)
    rw [decide_eq_false hl, decide_eq_false]
    omega

def lbs {s : ByteArray} (pre : List (Lab s)) : List ByteArray := pre.map (fun x => x.1.2)
theorem lbs_len {s : ByteArray} (hs : s.size ≤ 255) : ∀ pre : List (Lab s), (shAll (lbs pre)).length ≤ 1021 * pre.length
  | [] => by simp [lbs, shAll]
  | x :: pre => by
    have h1 := lbs_len hs pre
    have h2 := shLab_len x.1.2
    have h3 := x.2
    have e : (shAll (lbs (x :: pre))).length = (shLab x.1.2).length + (shAll (lbs pre)).length := by simp [shAll, lbs]
    rw [e, List.length_cons]; omega

set_option maxRecDepth 100000 in
set_option maxHeartbeats 4000000 in
theorem show_in (s : ByteArray) (w : World) (hm : s.size ≤ maxLen) (hN : isN s = true) (hl0 : 0 < (labs s).length) :
    CallsIn Fence.wide 4 Tryz.prog 11 #[.string s] w fun e W' => e = .returned (.string (showB s)) ∧ Below w.heap.size w W' := by
  have hro : Fence.wide.round = none := rfl
  obtain ⟨i0, hi, hz0, hz1, hz2⟩ := info_parts Tryz.infoByte
  have HT : Hid (showB s = bts (shAll (labs s))) := showB_yes hN hl0
  have hs : s.size ≤ 255 := ((isN_iff s).1 hN).1
  have hroot : (s.toList == [0]) = false := by rw [root_iff hN, decide_eq_false (by omega)]
  refine callsIn_of_wp_marks Tryz.func11 rfl trivial ?_ hro
  simp only [Tryz.ntmps11, List.size_toArray, List.length_cons, List.length_nil, Nat.reduceAdd, Nat.reduceSub, Array.replicate_succ, Array.replicate_zero, List.push_toArray, List.append_toArray, List.nil_append, List.cons_append]
  gi_wp2_with (first
    | (refine ⟨trivial, ?_⟩; gi_at_call 28; refine (isName_in s _ _ hm).mono ?_; rintro e w1 ⟨rfl, hB1⟩; rw [hN])
    | (refine ⟨trivial, ?_⟩; gi_at_call 26; refine (walk_in Fence.wide _ trivial rfl _ _).mono ?_; rintro e w' ⟨rfl, rfl⟩))
  have bO := Boxed.new w1 34 (.slice none 0 0)
  have hb := cell_new_l (w1.alloc (.cells #[.slice none 0 0] 34)) (.string s) 9
  rw [World.size_alloc] at hb
  have hB0 : Below w1.heap.size w1 ((w1.alloc (.cells #[.slice none 0 0] 34)).alloc (.cells #[.string s] 9)) := ((Below.refl _ w1).alloc (Nat.le_refl _) _).alloc (by simp) _
  refine wpIn_rangeFunc_ownF hro (by omega) (gf := 50) (lb := #[.pointer (some ⟨w1.heap.size + 1, 0, none⟩)]) rfl trivial (enters_of Tryz.func50 (by kernel_rfl) rfl)
    (walk_stops Fence.wide _ trivial hro (by omega) (w1.heap.size + 1) s hs _ (by simp) hb.1) kpB_t (kpB_b (w := (w1.alloc (.cells #[.slice none 0 0] 34)).alloc (.cells #[.string s] 9))) (Below.refl _ _) (fun _ => rfl)
    (fun pre W => (∃ v, Boxed W w1.heap.size 34 v ∧ W.ownsRow (w1.heap.size + 2) 5 1 v (shAll (lbs pre)).length (byts (shAll (lbs pre))) ∧ True) ∧ Below w1.heap.size w1 W ∧ w1.heap.size + 2 ≤ W.heap.size)
    (fun _ _ _ => False)
    (OwnFrom.and (Own.from (holdsRow_own (w1.heap.size + 2) w1.heap.size 34 5 1 (fun pre : List (Lab s) => (shAll (lbs pre)).length) (fun pre => byts (shAll (lbs pre))) (fun _ _ => True)) _) (OwnFrom.and (ownFrom_below (Nat.le_refl _) (by simp; omega)) (fun s W W' row h hg _ => Nat.le_trans h hg.size)))
    (fun _ _ _ _ _ hs _ _ => hs)
    ⟨⟨_, bO.alloc _, World.ownsRow_nil _ _ _ _, trivial⟩, hB0, by simp⟩
    (fun x => { tmps := #[Value.string s, undef, Value.string { data := #[] }, Value.pointer (some { block := w1.heap.size, off := 0 }),
          undef, .string x.1.2, undef, Value.string s, Value.bool true, Value.bool false, Value.string s, Value.bool false,
          Value.string s, Value.func (Fn.func 50) #[] #[Value.pointer (some { block := w1.heap.size + 1, off := 0 })],
          .int .i64 x.1.1, .string x.1.2, undef, undef, undef, undef, undef, undef, undef, undef, undef, undef, undef, undef, undef,
          undef, undef, undef], defers := [] }) ?assign ?body ?done ?stop
  case assign =>
    intro l x W K hK
    dsimp only [encL]
    gi_wp2
    exact hK
  case body =>
    rintro l pre ⟨⟨i, lab⟩, hx⟩ W ⟨⟨v, hv, hrow, _⟩, hB, hsz⟩ hpl
    have HLB : Hid (lbs (pre ++ [⟨(i, lab), hx⟩]) = lbs pre ++ [lab]) := by unfold Hid lbs; simp
    have hA := lbs_len hs pre
    dsimp only at hx ⊢
    generalize hAc : shAll (lbs pre) = A at *
    have HAc : Hid (shAll (lbs pre) = A) := hAc
    clear hAc
    have hA' : A.length ≤ 300000 := by omega
    obtain ⟨W0, rfl⟩ : ∃ W0, W0 = W := ⟨_, rfl⟩
    gi_wp2
    gi_loopw [18] (fun ii wr => ∃ j : Nat, ii = .int .i64 j ∧ j ≤ lab.size ∧ (∃ v, Boxed wr w1.heap.size 34 v ∧ wr.ownsRow (w1.heap.size + 2) 5 1 v (A ++ shTo lab j).length (byts (A ++ shTo lab j))) ∧ Below w1.heap.size w1 wr ∧ w1.heap.size + 2 ≤ wr.heap.size ∧ KeepsOthers W0 wr ∧ KpB (w1.heap.size + 1) W0 wr)
      (fun ii _ => lab.size - (intOf ii).toNat)
    case atStart => exact ⟨0, rfl, Nat.zero_le _, ⟨v, hv, by simpa [shTo] using hrow⟩, hB, hsz, KeepsOthers.refl _, fun _ e => e⟩
    case round =>
      obtain ⟨j, rfl, hj, ⟨v3, hv3, hrow3⟩, hB3, hsz3, hK3, hkp3⟩ := hrel
      have HTL : Hid ((shTo lab j).length ≤ 4 * j) := shTo_len lab j
      have hlen3 : (A ++ shTo lab j).length ≤ 400000 := by have := HTL.out; rw [List.length_append]; omega
      have hc3 := hv3.cell
      have hf3 := hv3.frozen
      by_cases hlt : j < lab.size
      · obtain ⟨y, hy, HY, hy256⟩ := bt_wrap hlt
        have HST : Hid (A ++ shTo lab (j + 1) = A ++ shTo lab j ++ shL y) := by unfold Hid; rw [← HY]; simp [shTo]
        clear HY
        have hpos := (shL_len y).1
        have mixed : Tryz.prog.follows Departure.mixedOrders = true := by kernel_rfl
        gi_wp2
        gi_region_with_o (refine ⟨trivial, ?_⟩; gi_at_call 29; refine (CallsIn.inRound l (callsIn_wide.2 (append_any v3 _ (w1.heap.size + 2) y 33 marks _ _ (by exact hrow3) hy256 (by decide) (by omega) (by exact hsz3)))).mono ?_; rintro e w5 ⟨v5, rfl, hown5, hB5, hK5⟩; rw [shG_name] at hown5; obtain ⟨g5, c5, rfl⟩ := owns_some hown5 (by omega); have hv5 : Boxed w5 w1.heap.size 34 v3 := (hB5.block _ (by omega)).trans hv3; have hc5 := hv5.cell; have hf5 := hv5.frozen)
        all_goals gi_wp2
        all_goals
          have hrow5 := hown5.kept (grownBy_setCell' w5 w1.heap.size (.slice (some ⟨g5, 0, none⟩) ((A ++ shTo lab j).length + (shL y).length) c5)) (.inr (hv5.not_row (by decide) hown5).symm)
          have hLen : (A ++ shTo lab j).length + (shL y).length = (A ++ shTo lab (j + 1)).length := by rw [HST.out]; exact List.length_append.symm
          have hMap : byts (A ++ shTo lab j) ++ byts (shL y) = byts (A ++ shTo lab (j + 1)) := by rw [HST.out]; simp [byts]
          refine ⟨⟨j + 1, by go_num, hlt, ⟨_, hv5.set _, ?_⟩, (hB3.drew.trans (hB5.mono (by omega))).setCell (p := ⟨w1.heap.size, 0, none⟩) (Nat.le_refl _) _, ?_, ?_, ?_⟩, ?_⟩
          · rw [hLen, hMap] at hrow5
            rw [List.length_append] at hLen
            rw [hLen]
            exact hrow5
          · have h1 := hB5.size
            have h2 : wr.heap.size ≤ w5.heap.size := h1
            simp [World.setCell]; omega
          · exact hK3.trans ((KeepsOthers.drew wr).trans (hK5.trans (KeepsOthers.setCell _ _ _)))
          · intro u e
            rw [cell_far _ _ _ _ (by simp)]
            exact (hB5.cell (p := ⟨w1.heap.size + 1, 0, none⟩) (by simp)).trans (hkp3 u e)
          · simp [intOf]; omega
      · have HJ : Hid (shAll (lbs (pre ++ [⟨(i, lab), hx⟩])) = A ++ shTo lab j ++ [46]) := by
          unfold Hid; rw [HLB.out, shAll_snoc, HAc.out, shLab, show j = lab.size by omega, List.append_assoc]
        gi_wp2_with (gi_at_builtin; refine wpListIn_append_own _ rfl _ _ 34 rfl (w1.heap.size + 2) 5 i0 (.int .u8 0) 1 1 Tryz.underlying34 hi hz0 hz1 hz2 rfl (by decide) _ _ _ rfl (hrow3.alloc _) ⟨wr.heap.size, 0, none⟩ 1 1 [.int .u8 46] rfl rfl (cell_one_new _ _ _) (by simp [Value.oneCell']) (by unfold maxLen; omega) (by omega) (by simp; omega) ?_; intro v' w2 hown' hgrow _; obtain ⟨g', cap', rfl⟩ := ownsRow_succ hown'; obtain ⟨hv1, hv2, hr2, hk2, hb2, hkp⟩ := appended2 (n₀ := w1.heap.size) (Bn := w1.heap.size + 1) hv3 (by decide) hrow3 hsz3 (Nat.le_refl _) (by omega) (by omega) (by omega) hown' hgrow; have hc1 := hv1.cell; have hf1 := hv1.frozen)
        simp only [List.length_append] at hk2 hkp hv2 hr2 hb2
        refine ⟨hK3.trans hk2, kpB_t hkp3 hkp, ⟨_, hv2, ?_, trivial⟩, hB3.trans hb2, Nat.le_trans hsz3 hb2.size⟩
        rw [HJ.out]
        simpa [byts, Nat.add_assoc] using hr2
  case done =>
    rintro D ys W hD rfl ⟨⟨v, hv, hrow, _⟩, hB, hsz⟩ hK
    have HLE : Hid (lbs (rest s 0) = labs s) := rfl
    rw [HLE.out] at hrow
    have hpos : 0 < (shAll (labs s)).length := by
      cases hL : labs s with
      | nil => rw [hL] at hl0; simp at hl0
      | cons x l => simp [shAll, shLab]; omega
    obtain ⟨g5, c5, rfl⟩ := owns_some hrow hpos
    have hltA : ∀ x ∈ shAll (labs s), x < 256 := by
      intro x hx
      obtain ⟨y, _, hy⟩ := List.mem_flatMap.1 hx
      rcases List.mem_append.1 hy with h | h
      · exact shTo_lt y _ x h
      · simp at h; omega
    have hz := bts_size (shAll (labs s))
    have hcv : (convert 34 9 (.slice (some ⟨g5, 0, none⟩) (shAll (labs s)).length c5)).run Tryz.prog W = .ok (.string (bts (shAll (labs s)))) W := by
      have h := owns_str (t := bts (shAll (labs s))) (w := W) (base := w1.heap.size + 2) (g := g5) (cap := c5) (by rw [hz, bts_cells _ hltA]; exact hrow)
      rw [hz] at h; exact h
    have hc := hv.cell
    clear hz hltA
    gi_wp2
    refine ⟨by simp, .inl ⟨_, _, rfl, run_takeDeferred hK, ?_⟩⟩
    exact ⟨_, results_tmp rfl _ _ _, by rw [HT.out]; rfl, (hB1.trans (hB.mono hB1.size)).trans (belowK_b (w := w) (Nat.le_refl _) W D _ _ (by have := hB1.size; simp at hD; omega) hK rfl rfl)⟩
  case stop =>
    rintro D c pre W _ _ h _
    exact h.elim

/-- name.Show -/
theorem show_any (s : ByteArray) (w : World) (hm : s.size ≤ maxLen) :
    Calls Tryz.prog 11 #[.string s] w fun e W' => e = .returned (.string (showB s)) ∧ Below w.heap.size w W' := by
  have hro : Fence.wide.round = none := rfl
  cases hN : isN s with
  | false =>
    have HT : Hid (showB s = ByteArray.empty) := showB_no hN
    refine (callsIn_wide (n := 3)).1 ?_
    refine callsIn_of_wp_marks Tryz.func11 rfl trivial ?_ hro
    simp only [Tryz.ntmps11, List.size_toArray, List.length_cons, List.length_nil, Nat.reduceAdd, Nat.reduceSub, Array.replicate_succ, Array.replicate_zero, List.push_toArray, List.append_toArray, List.nil_append, List.cons_append]
    gi_wp2_with (refine ⟨trivial, ?_⟩; gi_at_call 28; refine (isName_in s _ _ hm).mono ?_; rintro e w1 ⟨rfl, hB1⟩; rw [hN])
    exact ⟨_, results_tmp rfl _ _ _, by rw [HT.out]; rfl, hB1⟩
  | true =>
    by_cases hl0 : 0 < (labs s).length
    · exact callsIn_wide.1 (show_in s w hm hN hl0)
    · have HT : Hid (showB s = bts [46]) := showB_root hN (by omega)
      have hroot : (s.toList == [0]) = true := by rw [root_iff hN, decide_eq_true (by omega)]
      refine (callsIn_wide (n := 3)).1 ?_
      refine callsIn_of_wp_marks Tryz.func11 rfl trivial ?_ hro
      simp only [Tryz.ntmps11, List.size_toArray, List.length_cons, List.length_nil, Nat.reduceAdd, Nat.reduceSub, Array.replicate_succ, Array.replicate_zero, List.push_toArray, List.append_toArray, List.nil_append, List.cons_append]
      gi_wp2_with (refine ⟨trivial, ?_⟩; gi_at_call 28; refine (isName_in s _ _ hm).mono ?_; rintro e w1 ⟨rfl, hB1⟩; rw [hN])
      exact ⟨_, results_tmp rfl _ _ _, by rw [HT.out]; rfl, hB1⟩
end Go.Proofs.YtmbjmokhkonpiaaGreatDoor
