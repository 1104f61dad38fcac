import Derived.Test.YtfacfhigehdejaaGreatDoorPrtG
import Derived.Test.YtfacfhigehdejaaGreatDoorMath13G
import Derived.Laws.Runes
namespace Go.Proofs.YtfacfhigehdejaaGreatDoor
set_option linter.unusedVariables false
open Go.RowKit Go.Shelf Go.Proofs.YtfacfhigehdejaaGreatDoor.Nm

abbrev byts (l : List Nat) : List Value := l.map (fun x : Nat => Value.int .u8 (x : Int))

/-- 'string([]byte{a, b, c})' -/
theorem three_bytes (W : World) (a b c : Nat) (ha : a < 256) (hb : b < 256) (hc : c < 256) :
    (convert 69 9 (.slice (some ⟨W.heap.size, 0, none⟩) 3 3)).run Tryz.prog (W.alloc (.cells #[.int .u8 (a : Int), .int .u8 (b : Int), .int .u8 (c : Int)] 5)) = .ok (.string (bts [a, b, c])) (W.alloc (.cells #[.int .u8 (a : Int), .int .u8 (b : Int), .int .u8 (c : Int)] 5)) := by
  have hg : (W.alloc (.cells #[.int .u8 (a : Int), .int .u8 (b : Int), .int .u8 (c : Int)] 5)).heap[W.heap.size]? = some (.cells #[.int .u8 (a : Int), .int .u8 (b : Int), .int .u8 (c : Int)] 5 (0, 0)) := World.alloc_heap_new W _
  have hlt : ∀ x ∈ [a, b, c], x < 256 := by intro x hx; simp at hx; omega
  refine HoldsB.str (t := bts [a, b, c]) (f := fun j => [a, b, c].getD j 0) ⟨by simp, fun j hj => ?_, fun j hj => ?_⟩ (fun j hj => ?_) 3
  · have hj' : j < 3 := by rw [bts_size] at hj; exact hj
    have : j = 0 ∨ j = 1 ∨ j = 2 := by omega
    unfold World.cell?
    rw [hg]
    rcases this with rfl | rfl | rfl <;> rfl
  · unfold World.frozen?
    rw [hg]; simp
  · have hj' : j < 3 := by rw [bts_size] at hj; exact hj
    rw [bts_bt _ hlt j hj']
    simp [List.getD_eq_getElem?_getD, List.getElem?_eq_getElem (show j < [a, b, c].length from hj')]

set_option maxRecDepth 100000 in
/-- strings.IndexByte -/
theorem slIndex_any (s : ByteArray) (c : Int) (w : World) :
    Calls Tryz.prog 73 #[.string s, .int .u8 c] w fun e w' => e = .returned (.int .i64 (Lib.indexByte s.data.toList c.toNat.toUInt8)) ∧ w' = w := by
  go_enter Tryz.func73, Tryz.ntmps73
  go_wp2
  rw [run_callFunc_extern Tryz.func77 (by kernel_rfl) (by kernel_rfl) (by kernel_rfl) (e := Extern.BytealgIndexByte.indexByte) (by kernel_rfl), Lib.run_indexByteString]
  simp only [Result.andThen]
  rw [Oper.upon_value]
  go_wp2
  go_ret
  exact ⟨rfl, rfl⟩
theorem index_nonneg (s : ByteArray) (b : Nat) (hb : b < 256) : decide (0 ≤ Lib.indexByte s.data.toList (b : Int).toNat.toUInt8) = amB s b := by
  rw [← Lib.firstIdx_eq, firstIdx_nonneg]
  have hc : ((b : Int).toNat.toUInt8).toNat = b := by
    show (UInt8.ofNat b).toNat = b
    rw [UInt8.toNat_ofNat']; omega
  rw [Bool.eq_iff_iff]
  constructor
  · intro h
    obtain ⟨x, hx, he⟩ := List.any_eq_true.1 h
    obtain ⟨j, hj, rfl⟩ := List.getElem_of_mem hx
    have hj' : j < s.size := by simpa using hj
    refine amB_true hj' ?_
    rw [← bt_list s j hj', eq_of_beq he, hc]
  · intro h
    unfold amB at h
    obtain ⟨j, hj, he⟩ := List.any_eq_true.1 h
    have hj' := List.mem_range.1 hj
    refine List.any_eq_true.2 ⟨s.data.toList[j]'(by simpa using hj'), List.getElem_mem _, ?_⟩
    rw [beq_iff_eq]
    apply UInt8.toNat_inj.1
    rw [bt_list s j hj', eq_of_beq he, hc]
set_option maxRecDepth 100000 in
theorem indexByte_any (s : ByteArray) (b : Nat) (w : World) (hb : b < 256) :
    Calls Tryz.prog 64 #[.string s, .int .u8 (b : Int)] w fun e w' => ∃ i : Int, e = .returned (.int .i64 i) ∧ decide (0 ≤ i) = amB s b ∧ w' = w := by
  have HX : Hid (decide (0 ≤ Lib.indexByte s.data.toList (b : Int).toNat.toUInt8) = amB s b) := index_nonneg s b hb
  generalize hI : Lib.indexByte s.data.toList (b : Int).toNat.toUInt8 = I at *
  have HI : Hid (Lib.indexByte s.data.toList (b : Int).toNat.toUInt8 = I) := hI
  clear hI
  go_enter Tryz.func64, Tryz.ntmps64
  go_wp2_with (go_at_call 73; refine (slIndex_any _ _ _).mono ?_; rintro e w1 ⟨rfl, rfl⟩; rw [HI.out])
  go_ret
  exact ⟨_, rfl, HX.out, rfl⟩

theorem keeps_app {w2 w3 : World} {o : Obj} {ov : Value} {base e size n : Nat} {xs : List Value} (hown : w2.ownsRow base e size ov n xs) (hg : (w2.alloc o).grownBy w3 ov.ownBlock) : KeepsOthers w2 w3 := by
  refine (KeepsOthers.alloc w2 o).trans (KeepsOthers.of_grownBy hg fun j ob ej hj => ?_)
  rcases (hown.alloc o).2 with ⟨rfl, _⟩ | ⟨g, cap, cur, rfl, _, hgb, _⟩
  · simp [Value.ownBlock] at ej
  · obtain rfl : g = j := by simpa [Value.ownBlock] using ej
    rw [hgb] at hj; cases hj; rfl

theorem four_new (w : World) (a b c d : Value) (t : TypeId) : ∀ j u, [a, b, c, d][j]? = some u → (w.alloc (.cells #[a, b, c, d] t)).cell? ((⟨w.heap.size, 0, none⟩ : Addr).add j) = some u := by
  intro j u hj
  match j, hj with
  | 0, hj => simp at hj; subst hj; simp [Addr.add]
  | 1, hj => simp at hj; subst hj; simp [Addr.add]
  | 2, hj => simp at hj; subst hj; simp [Addr.add]
  | 3, hj => simp at hj; subst hj; simp [Addr.add]
  | j + 4, hj => simp at hj

set_option maxRecDepth 100000 in
set_option maxHeartbeats 1000000 in
/-- spell.Append -/
theorem append_any (v : Value) (n base b f : Nat) (m : ByteArray) (xs : List Value) (w : World) (hown : w.ownsRow base 5 1 v n xs) (hb : b < 256) (hf : f < 256) (hn : n ≤ 1048576) (hbase : base ≤ w.heap.size) :
    Calls Tryz.prog 125 #[v, .int .u8 (b : Int), .int .u8 (f : Int), .string m] w fun e w' => ∃ v', e = .returned v' ∧ w'.ownsRow base 5 1 v' (n + (shG f m b).length) (xs ++ (shG f m b).map (fun x : Nat => Value.int .u8 (x : Int))) ∧ Below base w w' ∧ KeepsOthers w w' := by
  obtain ⟨i0, hi, hz0, hz1, hz2⟩ := info_parts Tryz.infoByte
  by_cases hesc : b < f ∨ 126 < b
  · have HS : Hid (shG f m b = escL b) := shG_esc hesc
    have HM : Hid ((escL b).map (fun x : Nat => Value.int .u8 (x : Int)) = [.int .u8 92, .int .u8 (48 + (b : Int) / 100), .int .u8 (48 + (b : Int) / 10 % 10), .int .u8 (48 + (b : Int) % 10)]) := by
      unfold Hid escL; simp
    rcases (show b < f ∨ (f ≤ b ∧ 126 < b) by omega) with h | ⟨h, h'⟩
    all_goals
      go_enter Tryz.func125, Tryz.ntmps125
      go_wp2_with (at_builtin; refine wpList_append_own _ rfl _ _ 69 rfl base 5 i0 (.int .u8 0) 1 1 Tryz.underlying69 hi hz0 hz1 hz2 rfl (by decide) _ _ _ rfl (hown.alloc _) ⟨w.heap.size, 0, none⟩ 4 4 [.int .u8 92, .int .u8 (48 + (b : Int) / 100), .int .u8 (48 + (b : Int) / 10 % 10), .int .u8 (48 + (b : Int) % 10)] rfl rfl (four_new _ _ _ _ _ _) (by simp [Value.oneCell']) (by unfold maxLen; omega) (by omega) (by simp; omega) ?_; intro v' w4 hown' hgrow _)
      go_ret
      rw [HS.out, HM.out]
      exact ⟨_, rfl, hown', below_app (Below.refl _ _) hbase hown hgrow, keeps_app hown hgrow⟩
  · have h1 : f ≤ b := by omega
    have h2 : b ≤ 126 := by omega
    cases hm : amB m b with
    | true =>
      have HS : Hid (shG f m b = [92, b]) := shG_marked hesc hm
      clear hesc
      go_enter Tryz.func125, Tryz.ntmps125
      go_wp2_with (first
        | (go_at_call 64; refine (indexByte_any m b _ hb).mono ?_; rintro e w1 ⟨i, rfl, hi2, rfl⟩; rw [hm] at hi2; have hi3 : 0 ≤ i := of_decide_eq_true hi2; clear hi2)
        | (at_builtin; refine wpList_append_own _ rfl _ _ 69 rfl base 5 i0 (.int .u8 0) 1 1 Tryz.underlying69 hi hz0 hz1 hz2 rfl (by decide) _ _ _ rfl (hown.alloc _) ⟨_, 0, none⟩ 1 1 [.int .u8 92] rfl rfl (cell_one_new _ _ _) (by simp [Value.oneCell']) (by unfold maxLen; omega) (by omega) (by simp; omega) ?_; intro v4 w4 hown4 hgrow4 _; have hB4 := below_app (Below.refl _ _) hbase hown hgrow4; have hK4 := keeps_app hown hgrow4; clear hown)
        | (at_builtin; refine wpList_append_own _ rfl _ _ 69 rfl base 5 i0 (.int .u8 0) 1 1 Tryz.underlying69 hi hz0 hz1 hz2 rfl (by decide) _ _ _ rfl (hown4.alloc _) ⟨_, 0, none⟩ 1 1 [.int .u8 (b : Int)] rfl rfl (cell_one_new _ _ _) (by simp [Value.oneCell']) (by unfold maxLen; omega) (by omega) (by have := hB4.size; simp; omega) ?_; intro v5 w5 hown5 hgrow5 _; have hB5 := below_app hB4 hbase hown4 hgrow5; have hK5 := keeps_app hown4 hgrow5))
      go_ret
      rw [HS.out]
      exact ⟨_, rfl, by simpa [List.append_assoc] using hown5, hB5, hK4.trans hK5⟩
    | false =>
      have HS : Hid (shG f m b = [b]) := shG_plain hesc hm
      clear hesc
      go_enter Tryz.func125, Tryz.ntmps125
      go_wp2_with (first
        | (go_at_call 64; refine (indexByte_any m b _ hb).mono ?_; rintro e w1 ⟨i, rfl, hi2, rfl⟩; rw [hm] at hi2; have hi3 : ¬ 0 ≤ i := of_decide_eq_false hi2; clear hi2)
        | (at_builtin; refine wpList_append_own _ rfl _ _ 69 rfl base 5 i0 (.int .u8 0) 1 1 Tryz.underlying69 hi hz0 hz1 hz2 rfl (by decide) _ _ _ rfl (hown.alloc _) ⟨_, 0, none⟩ 1 1 [.int .u8 (b : Int)] rfl rfl (cell_one_new _ _ _) (by simp [Value.oneCell']) (by unfold maxLen; omega) (by omega) (by simp; omega) ?_; intro v4 w4 hown4 hgrow4 _; have hB4 := below_app (Below.refl _ _) hbase hown hgrow4; have hK4 := keeps_app hown hgrow4))
      go_ret
      rw [HS.out]
      exact ⟨_, rfl, by simpa using hown4, hB4, hK4⟩
end Go.Proofs.YtfacfhigehdejaaGreatDoor
