import Derived.Test.YtpfhhdbakfddhaaDoorVs1
import Derived.Shelf.SlIterI.Sorted
import Derived.Shelf.SortM.Plain
import Derived.Shelf.SortM.SortNone
import Derived.Ground.SlgmProg
namespace Go.Proofs.YtpfhhdbakfddhaaDoor
set_option linter.unusedVariables false
open Go.RowKit Go.Shelf Go.Sort Go.Proofs.YtpfhhdbakfddhaaDoor.Nm

shelf_lay_g SlLaysM.n5 Slgm 5 at Tryd 36 as Tryd.sortA

/-- slices.Values -/
theorem values_any (p : Option Addr) (n cap : Nat) (w : World) :
    Calls Tryd.prog 27 #[.slice p n cap] w fun e w' => e = .returned (.func (.func 37) #[] #[.pointer (some ⟨w.heap.size, 0, none⟩)]) ∧ w' = w.alloc (.cells #[.slice p n cap] 22) := by
  have hmf : ∀ (fn : Fn) (first cap : Array Value) (w : World), (Instr.makeFunc fn first cap).run Tryd.prog w = .ok (.func fn first cap) w := fun _ _ _ _ => rfl
  go_enter Tryd.func27, Tryd.ntmps27
  go_wp2
  go_ret
  exact ⟨rfl, rfl⟩

set_option maxRecDepth 100000 in
/-- slices.Sorted of slices.Values -/
theorem sorted_any (L : List Int) (p : Option Addr) (cap Bn : Nat) (w : World) (hL : L.length ≤ 16777216) (hBn : Bn < w.heap.size) (hcb : w.cell? ⟨Bn, 0, none⟩ = some (.slice p L.length cap)) (hat : ZAt w Bn p L) :
    Calls Tryd.prog 26 #[.func (.func 37) #[] #[.pointer (some ⟨Bn, 0, none⟩)]] w fun e W' => ∃ v, e = .returned v ∧ W'.ownsRow w.heap.size 3 1 v L.length ((L.mergeSort (fun x y => decide (x ≤ y))).map encI) ∧ Below w.heap.size w W' := by
  have HA := hide' (fun w hBn hcb hat => callsIn_wide.1 (appendSeq_in L p cap Bn w hL hBn hcb hat))
  have HC : ∀ w, Bn < w.heap.size → w.cell? ⟨Bn, 0, none⟩ = some (.slice p L.length cap) → ZAt w Bn p L →
      Calls Tryd.prog 35 #[.func (.func 37) #[] #[.pointer (some ⟨Bn, 0, none⟩)]] w fun e W' => ∃ v, e = .returned v ∧ W'.ownsRow w.heap.size 3 1 v L.length (L.map encI) ∧ Below w.heap.size w W' := by
    intro w hBn hcb hat
    have HAA := hide' (HA.out w hBn hcb hat)
    clear hcb
    go_enter Tryd.func35, Tryd.ntmps35
    go_wp2_with (go_at_call 42; refine (HAA.out).mono ?_; rintro e w1 ⟨v, rfl, hown, hB⟩)
    go_ret
    exact ⟨v, rfl, hown, hB⟩
  have HCC := hide' (HC w hBn hcb hat)
  clear hcb HC
  go_enter Tryd.func26, Tryd.ntmps26
  go_wp2_with fail
  refine (HCC.out).mono ?_
  rintro e W ⟨v, rfl, hrow, hb⟩
  rcases hrow.2 with ⟨rfl, hz⟩ | ⟨gb, cap2, cur, rfl, hbase, hgb, r1, r2, r3, r4⟩
  · have hss : L = [] := List.eq_nil_of_length_eq_zero hz
    subst hss
    go_wp2_with (go_at_call 36; refine (AnyM.slices_Sort_int_none Tryd.sortA none 0 W).mono ?_; rintro e w' ⟨rfl, rfl⟩)
    go_ret
    exact ⟨.slice none 0 0, rfl, by simpa using hrow, hb⟩
  · have hH : Holds (Value.int .i64) W gb 0 L.toArray := holds_of_block_i hgb (by simpa using r4)
    have hgl : gb < W.heap.size := (Array.getElem?_eq_some_iff.1 hgb).1
    have cS := AnyM.slices_Sort_int Tryd.sortA gb 0 cap2 L W hH hgl (by omega)
    change Calls Tryd.prog 36 _ _ _ at cS
    have CS := hide' cS
    clear cS
    go_wp2_with (go_at_call 36; refine (CS.out).mono ?_; rintro e w' ⟨rfl, nn, os, rfl⟩)
    go_ret
    exact ⟨_, rfl, ownsRow_sorted_i (by simp) hbase hgb r1 r2 r3, hb.grown (grownBy_sorted_i _) hb.size (fun j hj => by cases hj; exact hbase)⟩
end Go.Proofs.YtpfhhdbakfddhaaDoor
