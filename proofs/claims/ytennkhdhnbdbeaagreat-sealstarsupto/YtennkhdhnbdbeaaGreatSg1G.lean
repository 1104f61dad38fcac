import Derived.Test.YtennkhdhnbdbeaaGreatSf8G
import Derived.Test.YtennkhdhnbdbeaaGreatBw1G
import Derived.Shelf.Lay
import Derived.Ground.NamesProg
import Derived.Shelf.Slices.In.CompactS
import Derived.Shelf.Slices.In.SortAlone
import Derived.Sort.OwnSorted
import Derived.Sort.EveryDepth
import Derived.Sort.Grow
import Derived.Lib.OwnBridge
import Derived.OwnWalk
import Derived.Test.YtennkhdhnbdbeaaGreatOw1
import Derived.Test.YtennkhdhnbdbeaaGreatGr0G
/-
  Sort and Compact of texts off the shelf; seal.foldedData. (The verifier's own text.)
-/
namespace Go.Proofs.YtennkhdhnbdbeaaGreat
set_option linter.unusedVariables false
set_option linter.unusedSimpArgs false
open Go.RowKit Go.Shelf Go.Sort Go.Proofs.YtennkhdhnbdbeaaGreat.Nm

def Tryz.sortS_ren : Go.Shelf.Ren := ⟨fun | 190 => 101 | 125 => 111 | 258 => 110 | 128 => 124 | 129 => 125 | 302 => 115 | 303 => 116 | 304 => 117 | 305 => 118 | 306 => 119 | 307 => 120 | 308 => 121 | 309 => 122 | 310 => 123 | 333 => 127 | 329 => 128 | 330 => 129 | 334 => 130 | 335 => 131 | 336 => 132 | 344 => 134 | n => n, fun | 31 => 41 | 9 => 9 | 3 => 3 | 46 => 79 | 0 => 0 | 51 => 143 | 53 => 102 | 4 => 4 | 183 => 136 | 182 => 135 | 131 => 140 | 5 => 5 | 218 => 163 | 222 => 167 | 228 => 169 | 229 => 170 | n => n, fun | n => n⟩
theorem Tryz.sortS : Go.Proofs.Lays.n190 Tryz.prog Tryz.sortS_ren := {
  mixed := by kernel_rfl
  f125 := Tryz.func111.trans (congrArg some (by kernel_rfl))
  f128 := Tryz.func124.trans (congrArg some (by kernel_rfl))
  f129 := Tryz.func125.trans (congrArg some (by kernel_rfl))
  f190 := Tryz.func101.trans (congrArg some (by kernel_rfl))
  f258 := Tryz.func110.trans (congrArg some (by kernel_rfl))
  f302 := Tryz.func115.trans (congrArg some (by kernel_rfl))
  f303 := Tryz.func116.trans (congrArg some (by kernel_rfl))
  f304 := Tryz.func117.trans (congrArg some (by kernel_rfl))
  f305 := Tryz.func118.trans (congrArg some (by kernel_rfl))
  f306 := Tryz.func119.trans (congrArg some (by kernel_rfl))
  f307 := Tryz.func120.trans (congrArg some (by kernel_rfl))
  f308 := Tryz.func121.trans (congrArg some (by kernel_rfl))
  f309 := Tryz.func122.trans (congrArg some (by kernel_rfl))
  f310 := Tryz.func123.trans (congrArg some (by kernel_rfl))
  f329 := Tryz.func128.trans (congrArg some (by kernel_rfl))
  f330 := Tryz.func129.trans (congrArg some (by kernel_rfl))
  f333 := Tryz.func127.trans (congrArg some (by kernel_rfl))
  f334 := Tryz.func130.trans (congrArg some (by kernel_rfl))
  f335 := Tryz.func131.trans (congrArg some (by kernel_rfl))
  f336 := Tryz.func132.trans (congrArg some (by kernel_rfl))
  f344 := Tryz.func134.trans (congrArg some (by kernel_rfl))
  t0 := Tryz.underlying0
  a0 := Tryz.isAgg0
  z0 := Tryz.sizeOf0
  v0 := Tryz.zeroValue0
  t3 := Tryz.underlying3
  a3 := Tryz.isAgg3
  z3 := Tryz.sizeOf3
  v3 := Tryz.zeroValue3
  t4 := Tryz.underlying4
  a4 := Tryz.isAgg4
  z4 := Tryz.sizeOf4
  v4 := Tryz.zeroValue4
  t5 := Tryz.underlying5
  a5 := Tryz.isAgg5
  z5 := Tryz.sizeOf5
  v5 := Tryz.zeroValue5
  t9 := Tryz.underlying9
  a9 := Tryz.isAgg9
  z9 := Tryz.sizeOf9
  v9 := Tryz.zeroValue9
  t31 := Tryz.underlying41
  a31 := Tryz.isAgg41
  z31 := Tryz.sizeOf41
  v31 := Tryz.zeroValue41
  t46 := Tryz.underlying79
  a46 := Tryz.isAgg79
  z46 := Tryz.sizeOf79
  v46 := Tryz.zeroValue79
  t51 := Tryz.underlying143
  a51 := Tryz.isAgg143
  z51 := Tryz.sizeOf143
  v51 := Tryz.zeroValue143
  t53 := Tryz.underlying102
  a53 := Tryz.isAgg102
  z53 := Tryz.sizeOf102
  v53 := Tryz.zeroValue102
  t131 := Tryz.underlying140
  a131 := Tryz.isAgg140
  z131 := Tryz.sizeOf140
  v131 := Tryz.zeroValue140
  t182 := Tryz.underlying135
  a182 := Tryz.isAgg135
  z182 := Tryz.sizeOf135
  v182 := Tryz.zeroValue135
  t183 := Tryz.underlying136
  a183 := Tryz.isAgg136
  z183 := Tryz.sizeOf136
  v183 := Tryz.zeroValue136
  t218 := Tryz.underlying163
  a218 := Tryz.isAgg163
  z218 := Tryz.sizeOf163
  v218 := Tryz.zeroValue163
  t222 := Tryz.underlying167
  a222 := Tryz.isAgg167
  z222 := Tryz.sizeOf167
  v222 := Tryz.zeroValue167
  t228 := Tryz.underlying169
  a228 := Tryz.isAgg169
  z228 := Tryz.sizeOf169
  v228 := Tryz.zeroValue169
  t229 := Tryz.underlying170
  a229 := Tryz.isAgg170
  z229 := Tryz.sizeOf170
  v229 := Tryz.zeroValue170 }
/-- texts in their order -/
def srt (ss : List (List UInt8)) : List (List UInt8) := ss.mergeSort fun x y => decide (x ≤ y)
/-- slices.Sort of texts of one's own -/
theorem sortS_own (ss : List (List UInt8)) (g cap base n : Nat) (w : World) (ho : w.ownsRow base 9 1 (.slice (some ⟨g, 0, none⟩) n cap) n (ss.map encStr)) (hn : ss.length = n) (hl : n < 4611686018427387904) :
    Calls Tryz.prog 101 #[.slice (some ⟨g, 0, none⟩) n cap] w fun e w' => e = .returned (.tuple #[]) ∧ w'.ownsRow base 9 1 (.slice (some ⟨g, 0, none⟩) n cap) n ((srt ss).map encStr) ∧ w.grownBy w' (some g) := by
  obtain ⟨g', cap', hv, hbg, hgl, hncap, hcm, hlen, hH⟩ := Lib.holds_of_ownsRow ho (by simp)
  cases hv
  subst hn
  rcases ho.2 with ⟨h0, _⟩ | ⟨g', cap', cur, hv, hbase, hb, h1, h2, h3, h4⟩
  · cases h0
  cases hv
  have cS := calls_of_every_depth fun D => AnyS.slices_Sort_string_alone Tryz.sortS D g 0 cap ss w hH hgl hl
  change Calls Tryz.prog 101 _ _ _ at cS
  refine cS.mono ?_
  rintro e w' ⟨rfl, nn, os, rfl⟩
  exact ⟨rfl, ownsRow_sorted (n := nn) (os := os) (ts := srt ss) (List.length_mergeSort ss) hbase hb h1 h2 h3, grownBy_sorted _⟩
end Go.Proofs.YtennkhdhnbdbeaaGreat

/-
  seal.foldedData. (The verifier's own text.)
-/
namespace Go.Proofs.YtennkhdhnbdbeaaGreat
set_option linter.unusedVariables false
set_option linter.unusedSimpArgs false
open Go.RowKit Go.Shelf Go.Sort Go.Proofs.YtennkhdhnbdbeaaGreat.Nm

/-- the data of records, folded -/
def fdL (L : List Rn) : List (List UInt8) := L.map fun r => (foldD r.t r.d).data.toList
theorem fdL_len (L : List Rn) : (fdL L).length = L.length := by simp [fdL]
theorem infoS : (Tryz.prog.info? 9).map (fun i => (i.zero, i.size, i.bytes)) = some (some (.string .empty), 1, 16) := by kernel_rfl
theorem take_put (l : List Value) (k : Nat) (u : Value) (hk : k < l.length) : (l.set k u).take (k + 1) = l.take k ++ [u] := by
  apply List.ext_getElem
  · simp; omega
  · intro i h1 h2
    simp at h1
    by_cases hi : i < k
    · rw [List.getElem_append_left (by simp; omega)]
      simp only [List.getElem_take]
      rw [List.getElem_set_ne (by omega)]
    · obtain rfl : i = k := by omega
      rw [List.getElem_append_right (by simp; omega)]
      simp
set_option maxRecDepth 100000 in
set_option maxHeartbeats 4000000 in
/-- seal.foldedData -/
theorem folded_any (L : List Rn) (p : Option Addr) (cap : Nat) (w : World) (h0 : 0 < L.length) (hL : L.length ≤ 1048576) (hat : RsAt w p L) (hz : ∀ r ∈ L, r.d.size ≤ 9223372036854775807) :
    Calls Tryz.prog 73 #[.slice p L.length cap] w fun e w' => ∃ g c, e = .returned (.slice (some ⟨g, 0, none⟩) L.length c) ∧ w'.ownsRow w.heap.size 9 1 (.slice (some ⟨g, 0, none⟩) L.length c) L.length ((srt (fdL L)).map encStr) ∧ Below w.heap.size w w' := by
  obtain ⟨i0, hi, hz0, hz1, hz2⟩ := info_parts infoS
  have HA := hide' hat
  have HZ := hide' hz
  clear hat hz
  go_enter Tryz.func73, Tryz.ntmps73
  go_wp2_with (at_make; refine wpList_make_full _ rfl _ _ 41 rfl w.heap.size 9 i0 (.string .empty) 1 Tryz.underlying41 hi hz0 hz1 .i64 .i64 _ _ L.length rfl rfl rfl rfl (by rw [hz2]; omega) (by unfold maxLen; omega) (Nat.le_refl _) ?_; intro w0 hown0 hgrow0; have HO0 := hide' hown0; have HB0 : Hid (Below w.heap.size w w0) := (Below.refl _ w).grown hgrow0 (Nat.le_refl _) (fun k e => by cases e); clear hown0 hgrow0)
  go_loopw [11] (fun iv wr => ∃ (k : Nat) (xs : List Value), iv = .int .i64 (k : Int) ∧ k ≤ L.length ∧ Hid (xs.take k = ((fdL L).take k).map encStr) ∧ Hid (wr.ownsRow w.heap.size 9 1 (.slice (some ⟨w.heap.size, 0, none⟩) L.length L.length) L.length xs) ∧ Hid (Below w.heap.size w wr)) (fun iv _ => L.length - (intOf iv).toNat)
  case atStart => exact ⟨0, _, rfl, Nat.zero_le _, by simp [Hid], HO0, HB0⟩
  case round =>
    clear HO0 HB0
    obtain ⟨k, xs, rfl, hk, HT, HO, HB⟩ := hrel
    by_cases hlt : k < L.length
    · obtain ⟨g, off, rfl, hg, e0, e1, e2, e3, e4⟩ := (rsAt_below7 HA.out HB.out) k hlt
      have HF := hide' (HZ.out _ (List.getElem_mem hlt))
      have HTK : Hid ((fdL L).take (k + 1) = (fdL L).take k ++ [(foldD L[k].t L[k].d).data.toList]) := by
        unfold Hid
        rw [List.take_succ_eq_append_getElem (by rw [fdL_len]; exact hlt)]
        simp [fdL]
      obtain ⟨x, hx⟩ : ∃ x, L[k] = x := ⟨_, rfl⟩
      rw [hx] at e0 e1 e2 e3 e4 HF HTK
      clear hx
      obtain ⟨xo, xt, xc, xl, xd⟩ := x
      simp only at e0 e1 e2 e3 e4 HF HTK
      have HFO := hide' (fun W => dataFold_any xt xd W HF.out)
      obtain ⟨X, hX⟩ : ∃ X, foldD xt xd = X := ⟨_, rfl⟩
      rw [hX] at HFO HTK
      clear hX
      obtain ⟨wy, hwy⟩ : ∃ wy, wr.alloc (.cells #[.string xo, .int .i64 xt, .int .i64 xc, .int .i64 xl, .string xd] 27) = wy := ⟨_, rfl⟩
      have hry : Below wr.heap.size wr wy := hwy ▸ (Below.refl _ wr).alloc (Nat.le_refl _) _
      have hbx : Bx wy wr.heap.size #[.string xo, .int .i64 xt, .int .i64 xc, .int .i64 xl, .string xd] 27 := hwy ▸ World.alloc_heap_new wr _
      have c1 : wy.cell? ⟨wr.heap.size, 1, none⟩ = some (.int .i64 xt) := hbx.cell rfl
      have c4 : wy.cell? ⟨wr.heap.size, 4, none⟩ = some (.string xd) := hbx.cell rfl
      have HOy := hide' (ownsRow_below HO.out hry)
      have HBy := hide' (bstep HB.out hry HB.out.size)
      clear hbx hry
      go_wp2_with (go_at_call 100; refine (HFO.out _).mono ?_; rintro e w3 ⟨rfl, hB⟩; have HO3 := hide' (ownsRow_below HOy.out hB); have HB3 := hide' (bstep HBy.out hB HBy.out.size); clear hB; obtain ⟨v3, k3, f3⟩ := own_cell HO3.out k (by omega))
      refine ⟨⟨k + 1, xs.set k (.string X), by go_num, by omega, ?_, own_put HO3.out k (by omega) _, HB3.out.grown (grown_set w3 w.heap.size k _) HB3.out.size (fun q e => by injection e with e; omega)⟩, ?_⟩
      · have hl : xs.length = L.length := by have := HO.out.1; omega
        unfold Hid
        rw [take_put xs k _ (by omega), HT.out, HTK.out, List.map_append]
        rfl
      · simp [intOf]; omega
    · obtain rfl : k = L.length := by omega
      have hl : xs.length = L.length := by have := HO.out.1; omega
      have hxs : xs = (fdL L).map encStr := by
        have h := HT.out
        rw [List.take_of_length_le (by omega), List.take_of_length_le (by rw [fdL_len]; omega)] at h
        exact h
      subst hxs
      have HS := hide' (sortS_own (fdL L) w.heap.size L.length w.heap.size L.length wr HO.out (fdL_len L) (by omega))
      go_wp2_with (go_at_call 101; refine HS.out.mono ?_; rintro e w3 ⟨rfl, ho, hg⟩; have HO3 := hide' ho; have HB3 := hide' (HB.out.grown hg HB.out.size (fun q e => by injection e with e; omega)); clear ho hg)
      go_ret
      exact ⟨w.heap.size, L.length, rfl, HO3.out, HB3.out⟩
end Go.Proofs.YtennkhdhnbdbeaaGreat
