import Derived.Test.YtklpgjgnghdcjaaGreatSf8G
import Derived.Test.YtklpgjgnghdcjaaGreatBw1G
import Derived.Shelf.Lay
import Derived.Ground.NamesProg
import Derived.Shelf.Slices.In.CompactS
import Derived.Shelf.Slices.In.SortAlone
import Derived.Sort.OwnSorted
import Derived.Sort.EveryDepth
import Derived.Sort.Grow
import Derived.Lib.OwnBridge
import Derived.OwnWalk
import Derived.Test.YtklpgjgnghdcjaaGreatOw1
import Derived.Test.YtklpgjgnghdcjaaGreatGr1
/-
  Sort and Compact of texts off the shelf; seal.foldedData. (The verifier's own text.)
-/
namespace Go.Proofs.YtklpgjgnghdcjaaGreat
set_option linter.unusedVariables false
set_option linter.unusedSimpArgs false
open Go.RowKit Go.Shelf Go.Sort Go.Proofs.YtklpgjgnghdcjaaGreat.Nm

shelf_lay Lays.n190 Nm 190 at Tryz as Tryz.sortS -- function 96
shelf_lay Lays.n194 Nm 194 at Tryz as Tryz.compactS -- function 65

/-- texts in their order -/
def srt (ss : List (List UInt8)) : List (List UInt8) := ss.mergeSort fun x y => decide (x ≤ y)
/-- slices.Sort of texts of one's own -/
theorem sortS_own (ss : List (List UInt8)) (g cap base n : Nat) (w : World) (ho : w.ownsRow base 9 1 (.slice (some ⟨g, 0, none⟩) n cap) n (ss.map encStr)) (hn : ss.length = n) (hl : n < 4611686018427387904) :
    Calls Tryz.prog 96 #[.slice (some ⟨g, 0, none⟩) n cap] w fun e w' => e = .returned (.tuple #[]) ∧ w'.ownsRow base 9 1 (.slice (some ⟨g, 0, none⟩) n cap) n ((srt ss).map encStr) ∧ w.grownBy w' (some g) := by
  obtain ⟨g', cap', hv, hbg, hgl, hncap, hcm, hlen, hH⟩ := Lib.holds_of_ownsRow ho (by simp)
  cases hv
  subst hn
  rcases ho.2 with ⟨h0, _⟩ | ⟨g', cap', cur, hv, hbase, hb, h1, h2, h3, h4⟩
  · cases h0
  cases hv
  have cS := calls_of_every_depth fun D => AnyS.slices_Sort_string_alone Tryz.sortS D g 0 cap ss w hH hgl hl
  change Calls Tryz.prog 96 _ _ _ at cS
  refine cS.mono ?_
  rintro e w' ⟨rfl, nn, os, rfl⟩
  exact ⟨rfl, ownsRow_sorted (n := nn) (os := os) (ts := srt ss) (List.length_mergeSort ss) hbase hb h1 h2 h3, grownBy_sorted _⟩
/-- slices.Compact of texts of one's own -/
theorem compactS_own (ss : List (List UInt8)) (g cap base n : Nat) (w : World) (ho : w.ownsRow base 9 1 (.slice (some ⟨g, 0, none⟩) n cap) n (ss.map encStr)) (hn : ss.length = n) (hl : n < 4611686018427387904) :
    Calls Tryz.prog 65 #[.slice (some ⟨g, 0, none⟩) n cap] w fun e w' => e = .returned (.slice (some ⟨g, 0, none⟩) (Lib.compact ss).length cap) ∧ w.grownBy w' (some g) := by
  obtain ⟨g', cap', hv, hbg, hgl, hncap, hcm, hlen, hH⟩ := Lib.holds_of_ownsRow ho (by simp)
  cases hv
  subst hn
  have cC := calls_of_every_depth fun D => AnyS.slices_Compact_string_in Tryz.compactS D g 0 cap ss w hH (by omega) hncap
  change Calls Tryz.prog 65 _ _ _ at cC
  refine cC.mono ?_
  rintro e w' ⟨rfl, q, rfl⟩
  refine ⟨rfl, ?_⟩
  have hgr := grownBy_sorted (w := w) (g := g) (n := q) (os := #[]) (Lib.compact ss ++ List.replicate (ss.length - (Lib.compact ss).length) []).toArray
  rw [grow_empty] at hgr
  exact hgr
end Go.Proofs.YtklpgjgnghdcjaaGreat

/-
  seal.foldedData. (The verifier's own text.)
-/
namespace Go.Proofs.YtklpgjgnghdcjaaGreat
set_option linter.unusedVariables false
set_option linter.unusedSimpArgs false
open Go.RowKit Go.Shelf Go.Sort Go.Proofs.YtklpgjgnghdcjaaGreat.Nm

/-- the data of records, folded -/
def fdL (L : List Rn) : List (List UInt8) := L.map fun r => (foldD r.t r.d).data.toList
theorem fdL_len (L : List Rn) : (fdL L).length = L.length := by simp [fdL]
theorem infoS : (Tryz.prog.info? 9).map (fun i => (i.zero, i.size, i.bytes)) = some (some (.string .empty), 1, 16) := by kernel_rfl
theorem take_put (l : List Value) (k : Nat) (u : Value) (hk : k < l.length) : (l.set k u).take (k + 1) = l.take k ++ [u] := by
  apply List.ext_getElem
  · simp; omega
  · intro i h1 h2
    simp at h1
    by_cases hi : i < k
    · rw [List.getElem_append_left (by simp; omega)]
      simp only [List.getElem_take]
      rw [List.getElem_set_ne (by omega)]
    · obtain rfl : i = k := by omega
      rw [List.getElem_append_right (by simp; omega)]
      simp
set_option maxRecDepth 100000 in
set_option maxHeartbeats 4000000 in
/-- seal.foldedData -/
theorem folded_any (L : List Rn) (p : Option Addr) (cap : Nat) (w : World) (h0 : 0 < L.length) (hL : L.length ≤ 1048576) (hat : RsAt w p L) (hz : ∀ r ∈ L, r.d.size ≤ 9223372036854775807) :
    Calls Tryz.prog 66 #[.slice p L.length cap] w fun e w' => ∃ g c, e = .returned (.slice (some ⟨g, 0, none⟩) L.length c) ∧ w'.ownsRow w.heap.size 9 1 (.slice (some ⟨g, 0, none⟩) L.length c) L.length ((srt (fdL L)).map encStr) ∧ Below w.heap.size w w' := by
  obtain ⟨i0, hi, hz0, hz1, hz2⟩ := info_parts infoS
  have HA := hide' hat
  have HZ := hide' hz
  clear hat hz
  go_enter Tryz.func66, Tryz.ntmps66
  go_wp2_with (at_make; refine wpList_make_full _ rfl _ _ 41 rfl w.heap.size 9 i0 (.string .empty) 1 Tryz.underlying41 hi hz0 hz1 .i64 .i64 _ _ L.length rfl rfl rfl rfl (by rw [hz2]; omega) (by unfold maxLen; omega) (Nat.le_refl _) ?_; intro w0 hown0 hgrow0; have HO0 := hide' hown0; have HB0 : Hid (Below w.heap.size w w0) := (Below.refl _ w).grown hgrow0 (Nat.le_refl _) (fun k e => by cases e); clear hown0 hgrow0)
  go_loopw [11] (fun iv wr => ∃ (k : Nat) (xs : List Value), iv = .int .i64 (k : Int) ∧ k ≤ L.length ∧ Hid (xs.take k = ((fdL L).take k).map encStr) ∧ Hid (wr.ownsRow w.heap.size 9 1 (.slice (some ⟨w.heap.size, 0, none⟩) L.length L.length) L.length xs) ∧ Hid (Below w.heap.size w wr)) (fun iv _ => L.length - (intOf iv).toNat)
  case atStart => exact ⟨0, _, rfl, Nat.zero_le _, by simp [Hid], HO0, HB0⟩
  case round =>
    clear HO0 HB0
    obtain ⟨k, xs, rfl, hk, HT, HO, HB⟩ := hrel
    by_cases hlt : k < L.length
    · obtain ⟨g, off, rfl, hg, e0, e1, e2, e3, e4⟩ := (rsAt_below7 HA.out HB.out) k hlt
      have HF := hide' (HZ.out _ (List.getElem_mem hlt))
      have HTK : Hid ((fdL L).take (k + 1) = (fdL L).take k ++ [(foldD L[k].t L[k].d).data.toList]) := by
        unfold Hid
        rw [List.take_succ_eq_append_getElem (by rw [fdL_len]; exact hlt)]
        simp [fdL]
      obtain ⟨x, hx⟩ : ∃ x, L[k] = x := ⟨_, rfl⟩
      rw [hx] at e0 e1 e2 e3 e4 HF HTK
      clear hx
      obtain ⟨xo, xt, xc, xl, xd⟩ := x
      simp only at e0 e1 e2 e3 e4 HF HTK
      have HFO := hide' (fun W => dataFold_any xt xd W HF.out)
      obtain ⟨X, hX⟩ : ∃ X, foldD xt xd = X := ⟨_, rfl⟩
      rw [hX] at HFO HTK
      clear hX
      obtain ⟨wy, hwy⟩ : ∃ wy, wr.alloc (.cells #[.string xo, .int .i64 xt, .int .i64 xc, .int .i64 xl, .string xd] 27) = wy := ⟨_, rfl⟩
      have hry : Below wr.heap.size wr wy := hwy ▸ (Below.refl _ wr).alloc (Nat.le_refl _) _
      have hbx : Bx wy wr.heap.size #[.string xo, .int .i64 xt, .int .i64 xc, .int .i64 xl, .string xd] 27 := hwy ▸ World.alloc_heap_new wr _
      have c1 : wy.cell? ⟨wr.heap.size, 1, none⟩ = some (.int .i64 xt) := hbx.cell rfl
      have c4 : wy.cell? ⟨wr.heap.size, 4, none⟩ = some (.string xd) := hbx.cell rfl
      have HOy := hide' (ownsRow_below HO.out hry)
      have HBy := hide' (bstep HB.out hry HB.out.size)
      clear hbx hry
      go_wp2_with (go_at_call 95; refine (HFO.out _).mono ?_; rintro e w3 ⟨rfl, hB⟩; have HO3 := hide' (ownsRow_below HOy.out hB); have HB3 := hide' (bstep HBy.out hB HBy.out.size); clear hB; obtain ⟨v3, k3, f3⟩ := own_cell HO3.out k (by omega))
      refine ⟨⟨k + 1, xs.set k (.string X), by go_num, by omega, ?_, own_put HO3.out k (by omega) _, HB3.out.grown (grown_set w3 w.heap.size k _) HB3.out.size (fun q e => by injection e with e; omega)⟩, ?_⟩
      · have hl : xs.length = L.length := by have := HO.out.1; omega
        unfold Hid
        rw [take_put xs k _ (by omega), HT.out, HTK.out, List.map_append]
        rfl
      · simp [intOf]; omega
    · obtain rfl : k = L.length := by omega
      have hl : xs.length = L.length := by have := HO.out.1; omega
      have hxs : xs = (fdL L).map encStr := by
        have h := HT.out
        rw [List.take_of_length_le (by omega), List.take_of_length_le (by rw [fdL_len]; omega)] at h
        exact h
      subst hxs
      have HS := hide' (sortS_own (fdL L) w.heap.size L.length w.heap.size L.length wr HO.out (fdL_len L) (by omega))
      go_wp2_with (go_at_call 96; refine HS.out.mono ?_; rintro e w3 ⟨rfl, ho, hg⟩; have HO3 := hide' ho; have HB3 := hide' (HB.out.grown hg HB.out.size (fun q e => by injection e with e; omega)); clear ho hg)
      go_ret
      exact ⟨w.heap.size, L.length, rfl, HO3.out, HB3.out⟩
end Go.Proofs.YtklpgjgnghdcjaaGreat
