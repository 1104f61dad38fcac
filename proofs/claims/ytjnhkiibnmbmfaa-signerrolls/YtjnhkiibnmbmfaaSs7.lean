import Derived.Test.YtjnhkiibnmbmfaaSs6
/-
  Chapter 7: is a line safe? (The verifier's own text.)
-/
namespace Go.Proofs.Ytjnhkiibnmbmfaa
set_option linter.unusedVariables false
set_option linter.unusedSimpArgs false
open Go.RowKit Go.Shelf Go.Sort Go.Proofs.Ytjnhkiibnmbmfaa.Nm

set_option maxRecDepth 100000 in
set_option maxHeartbeats 1000000 in
theorem turns2_any (L : List Tk) (p : Option Addr) (cap : Nat) (from0 : Int) (w : World) (hL : L.length ≤ 1048576) (hat : TsAt w p L) :
    Calls Try.prog 23 #[.slice p L.length cap, .int .i64 from0, .func (Fn.func 25) #[] #[]] w (turnsEnd from0 (fun k => (k.a, k.r)) L w) := by
  have HA := hide' hat
  clear hat
  obtain ⟨i0, hi, hz0, hz1, hz2⟩ := info_parts infoI
  go_enter Try.func23, Try.ntmps23
  go_wp2_with fail
  go_loopw [7, 16] (fun lv i wr => ∃ (n : Nat), i = .int .i64 (n : Int) ∧ n ≤ L.length ∧ wr.ownsRow w.heap.size 3 1 lv (rawT from0 (fun k => (k.a, k.r)) (L.take n)).length ((rawT from0 (fun k => (k.a, k.r)) (L.take n)).map (Value.int .i64)) ∧ Below w.heap.size w wr) (fun _ i _ => L.length - (intOf i).toNat)
  case atStart => exact ⟨0, rfl, Nat.zero_le _, ⟨by simp [rawT], .inr ⟨w.heap.size, 1, #[.int .i64 from0], by simp [rawT], Nat.le_refl _, World.alloc_heap_new w _, by simp [rawT], by decide, rfl, by simp [rawT]⟩⟩, (Below.refl _ _).alloc (Nat.le_refl _) _⟩
  case round =>
    obtain ⟨n, rfl, hn, hown, hBr⟩ := hrel
    have HBr := hide' hBr
    obtain ⟨pv, cv, rfl, _, _, _⟩ := own_shape hown
    have HO := hide' hown
    by_cases hlt : n < L.length
    · obtain ⟨g, off, rfl, hg, e0, e1, e2, e3, e4, e5, e6, e7⟩ := TsAt.cells (TsAt.below HA.out hBr) n hlt
      have HX := hide' (show L.take (n + 1) = L.take n ++ [L[n]] by rw [List.take_add_one, List.getElem?_eq_getElem hlt]; rfl)
      have HLN : Hid ((rawT from0 (fun k => (k.a, k.r)) (L.take n)).length ≤ 2 * n + 1) := by unfold Hid; rw [rawT_len, List.length_take]; omega
      have HR := hide' (rawT_snoc from0 (fun k => (k.a, k.r)) (L.take n) L[n])
      rw [← HX.out] at HR
      have HC := hide' (safe2_any L[n])
      generalize rawT from0 (fun k => (k.a, k.r)) (L.take n) = M at *
      generalize L[n] = x at *
      obtain ⟨f, m, e, s, pp, ac, rr, xx⟩ := x
      dsimp only [tkA] at e0 e1 e2 e3 e4 e5 e6 e7 HR HC
      clear hBr hown HX
      have HO2 : Hid (∀ u u' o, Below u.heap.size u u' → u = (wr.alloc (.cells #[.int .i64 f, .int .i64 m, .int .i64 e, .int .i64 s, .int .i64 pp, .int .i64 ac, .int .i64 rr, .int .i64 xx] 29)) → (u'.alloc o).ownsRow w.heap.size 3 1 (.slice pv M.length cv) M.length (M.map (Value.int .i64)) ∧ Below w.heap.size w (u'.alloc o)) := by
        rintro u u' o hb rfl
        have hB : Below w.heap.size w u' := bstep (HBr.out.alloc HBr.out.size _) hb (HBr.out.alloc HBr.out.size _).size
        exact ⟨row_bel (row_bel (row_bel HO.out ((Below.refl _ _).alloc (Nat.le_refl _) _) (Nat.le_refl _)) hb (Nat.le_refl _)) ((Below.refl _ _).alloc (Nat.le_refl _) _) (Nat.le_refl _), hB.alloc hB.size _⟩
      go_wp2_with (first
        | (go_at_call 25; refine (HC.out _).mono ?_; rintro r1 w1 ⟨rfl, hB1⟩; have HB1 := hide' hB1; clear hB1)
        | (at_builtin
           refine wpList_append_lies _ rfl _ _ 50 rfl w.heap.size 3 i0 (.int .i64 0) 1 8 Try.underlying50 hi hz0 hz1 hz2 rfl (by decide) (.slice pv M.length cv) M.length (M.map (Value.int .i64)) rfl (HO2.out _ _ _ HB1.out rfl).1 ⟨w1.heap.size, 0, none⟩ 2 2 [.int .i64 (max from0 ac), .int .i64 (max from0 rr)] rfl rfl (World.news_of_block (bxNew _ #[.int .i64 (max from0 ac), .int .i64 (max from0 rr)] 3)) (by simp [Value.oneCell']) (by decide) (by have := HLN.out; unfold maxLen; omega) (by have := HLN.out; omega) (HO2.out _ _ _ HB1.out rfl).2.size _ rfl ?_
           intro g6 cap6 w6 hown6 hgrow6 hpl6 hlt6
           have HO6 := hide' hown6
           have HG6 := hide' ((HO2.out _ _ _ HB1.out rfl).2.grown hgrow6 (HO2.out _ _ _ HB1.out rfl).2.size (fun k e => (HO.out.lt k e).1))
           clear hown6 hgrow6 hpl6 hlt6))
      refine ⟨⟨n + 1, by go_num, by omega, ?_, HG6.out⟩, by simp [intOf]; omega⟩
      rw [HR.out, List.length_append, List.map_append]
      exact HO6.out
    · obtain rfl : n = L.length := by omega
      rw [List.take_length] at HO
      have HLN := hide' (rawT_len from0 (fun k => (k.a, k.r)) L)
      clear hown
      obtain ⟨Z, hZ⟩ : ∃ Z, rawT from0 (fun k => (k.a, k.r)) L = Z := ⟨_, rfl⟩
      have HZ := hide' hZ
      rw [hZ] at HO HLN
      simp only [List.take_length, hZ]
      clear hZ
      obtain ⟨_, (⟨_, h0⟩ | ⟨gb, cap2, cur, hv, hbase, hgb, r1, r2, r3, r4⟩)⟩ := HO.out
      · have := HLN.out; omega
      injection hv with hv1 hv2 hv3
      subst hv1
      subst hv3
      have hH : Holds (Value.int .i64) wr gb 0 Z.toArray := holds_of_block_i hgb (by simpa using r4)
      have hgl : gb < wr.heap.size := (Array.getElem?_eq_some_iff.1 hgb).1
      have cS := AnyM.slices_Sort_int Try.sortI gb 0 cv Z wr hH hgl (by have := HLN.out; omega)
      change Calls Try.prog 37 _ _ _ at cS
      have CS := hide' cS
      have HGB := hide' hgb
      clear cS hH
      go_wp2_with (first
        | (go_at_call 37
           refine (CS.out).mono ?_
           rintro e1 w1 ⟨rfl, nn, os, hw1⟩
           have HW1 := hide' hw1
           clear hw1)
        | (go_at_call 38
           obtain ⟨ZS, hZS⟩ : ∃ ZS, Z.mergeSort (fun x y => decide (x ≤ y)) = ZS := ⟨_, rfl⟩
           have hlen : ZS.length = Z.length := by rw [← hZS]; simp
           have hperm : ∀ x, x ∈ ZS ↔ x ∈ Z := fun x => by rw [← hZS]; exact (List.mergeSort_perm Z _).mem_iff
           have ho1 : w1.ownsRow w.heap.size 3 1 (.slice (some ⟨gb, 0, none⟩) Z.length cv) Z.length (ZS.map (Value.int .i64)) := by rw [HW1.out, ← hZS]; exact ownsRow_sorted_i (by simp) hbase HGB.out r1 r2 r3
           have hb1 : Below w.heap.size w w1 := by rw [HW1.out]; exact HBr.out.grown (grownBy_sorted_i _) HBr.out.size (fun j hj => by cases hj; exact hbase)
           rw [← hlen] at ho1
           have cC := compactI_any ZS gb cv w.heap.size w1 ho1 (by have := HLN.out; omega)
           rw [hlen] at cC
           refine cC.mono ?_
           rintro e2 w2 ⟨rfl, hns, hgr, hgl2⟩
           have HW2 : Hid (NsAt w2 gb (Lib.compact ZS) ∧ Below w.heap.size w w2 ∧ gb < w2.heap.size) := ⟨hns, hb1.grown hgr hb1.size (fun j hj => by cases hj; exact hbase), hgl2⟩
           have HM : Hid (∀ x, x ∈ Lib.compact ZS ↔ x ∈ Z) := fun x => (mem_compactZ ZS x).trans (hperm x)
           have HML : Hid ((Lib.compact ZS).length ≤ Z.length) := by unfold Hid; rw [← hlen]; exact compactZ_len ZS
           clear cC hb1 hperm hZS ho1 hns hgr hgl2))
      go_ret
      exact ⟨gb, cv, Lib.compact ZS, rfl, hbase, HW2.out.2.2, HW2.out.1, (fun x => by rw [HZ.out]; exact HM.out x), (by have := HLN.out; have := HML.out; omega), HW2.out.2.1⟩
theorem greatest (M : List Int) (a : Int) : ∀ f, f ∈ M → f ≤ a → ∃ g, g ∈ M ∧ g ≤ a ∧ ∀ x, x ∈ M → x ≤ a → x ≤ g := by
  induction M with
  | nil => intro f h; cases h
  | cons y l ih =>
    intro f hf hfa
    by_cases hl : ∃ z, z ∈ l ∧ z ≤ a
    · obtain ⟨z, hz, hza⟩ := hl
      obtain ⟨g, hg, hga, hmax⟩ := ih z hz hza
      by_cases hy : y ≤ a ∧ g ≤ y
      · exact ⟨y, List.mem_cons_self, hy.1, fun x hx hxa => by
          rcases List.mem_cons.1 hx with rfl | hx
          · omega
          · have := hmax x hx hxa; omega⟩
      · exact ⟨g, List.mem_cons_of_mem _ hg, hga, fun x hx hxa => by
          rcases List.mem_cons.1 hx with rfl | hx
          · omega
          · exact hmax x hx hxa⟩
    · rcases List.mem_cons.1 hf with rfl | hf
      · exact ⟨f, List.mem_cons_self, hfa, fun x hx hxa => by
          rcases List.mem_cons.1 hx with rfl | hx
          · omega
          · exact absurd ⟨x, hx, hxa⟩ hl⟩
      · exact absurd ⟨f, hf, hfa⟩ hl
/-- the first times that meet behind each pair of turns tell enough -/
theorem safe_enough (L : List Tk) (ka sa fr to : Int) (M N : List Int) (hM : ∀ x, x ∈ M ↔ x ∈ rawT fr (fun k => (k.p, k.x)) L) (hN : ∀ x, x ∈ N ↔ x ∈ rawT fr (fun k => (k.a, k.r)) L)
    (h : ∀ g ∈ M, ∀ s ∈ N, max g (s - ka) ≤ to → max s (g - sa) ≤ to → servedB L (max g (s - ka)) (max s (g - sa)) = true)
    (a b : Int) (h1 : fr ≤ a) (h2 : a ≤ to) (h3 : fr ≤ b) (h4 : b ≤ to) (h5 : b - a ≤ ka) (h6 : a - b ≤ sa) : servedB L a b = true := by
  obtain ⟨g, hg, hga, hgm⟩ := greatest M a fr ((hM fr).2 (by simp [rawT])) h1
  obtain ⟨s, hs, hsb, hsm⟩ := greatest N b fr ((hN fr).2 (by simp [rawT])) h3
  have hv := h g hg s hs (by omega) (by omega)
  unfold servedB at hv ⊢
  obtain ⟨k, hk, hkk⟩ := List.any_eq_true.1 hv
  refine List.any_eq_true.2 ⟨k, hk, ?_⟩
  simp only [told, signs, Bool.and_eq_true, decide_eq_true_eq] at hkk ⊢
  have hx : max fr k.x ∈ M := (hM _).2 (List.mem_cons_of_mem _ (List.mem_flatMap.2 ⟨k, hk, by simp⟩))
  have hr : max fr k.r ∈ N := (hN _).2 (List.mem_cons_of_mem _ (List.mem_flatMap.2 ⟨k, hk, by simp⟩))
  have hx' := hgm _ hx
  have hr' := hsm _ hr
  refine ⟨⟨by omega, ?_⟩, ⟨by omega, ?_⟩⟩
  · rcases Int.lt_or_le a k.x with h | h
    · exact h
    · have := hx' (by omega); omega
  · rcases Int.lt_or_le b k.r with h | h
    · exact h
    · have := hr' (by omega); omega
/-- what Safe says -/
def argsB (ka sa fr to : Int) : Bool := ageB ka && (ageB sa && (decide (0 ≤ fr) && (decide (fr ≤ to) && decide (to ≤ 4294967295))))
def errR (c : Int) : Ending := .returned (.tuple #[.int .i64 0, .int .i64 0, .int .i64 c])
def safeEnd (L : List Tk) (ka sa fr to : Int) (r : Ending) : Prop :=
  (argsB ka sa fr to = false ∧ r = errR 23) ∨ (argsB ka sa fr to = true ∧ lineB L = false ∧ r = errR 8) ∨
  (argsB ka sa fr to = true ∧ lineB L = true ∧ (∃ x y : Int, r = .returned (.tuple #[.int .i64 x, .int .i64 y, .int .i64 25]) ∧ fr ≤ x ∧ x ≤ to ∧ fr ≤ y ∧ y ≤ to ∧ y - x ≤ ka ∧ x - y ≤ sa ∧ servedB L x y = false)) ∨
  (argsB ka sa fr to = true ∧ lineB L = true ∧ r = errR 0 ∧ ∀ a b : Int, fr ≤ a → a ≤ to → fr ≤ b → b ≤ to → b - a ≤ ka → a - b ≤ sa → servedB L a b = true)
end Go.Proofs.Ytjnhkiibnmbmfaa
