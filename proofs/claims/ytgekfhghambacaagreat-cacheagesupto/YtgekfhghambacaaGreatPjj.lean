import Derived.Test.YtgekfhghambacaaGreatPjhG
import Derived.Deep.RegionHeld3
/-
  Proofs: what a chain of NSEC3 proves. (The verifier's own text.)
-/
namespace Go.Proofs.YtgekfhghambacaaGreat
set_option linter.unusedVariables false
set_option linter.unusedSimpArgs false
open Go.RowKit Go.Shelf Go.Maps Go.Proofs.YtgekfhghambacaaGreat.Nm

/-- the longest name from so many labels down at which one stands -/
def enF (S : ByteArray → Option Hq) (q : ByteArray) (ca : Nat) : Nat → Option (ByteArray × Hq)
  | 0 => none
  | m + 1 => match S (tailB q ((ca + m : Nat) : Int)) with
    | some x => some (tailB q ((ca + m : Nat) : Int), x)
    | none => enF S q ca m
theorem starJ_size (e : ByteArray) : (starB e).size ≤ 255 := by
  unfold starB
  split
  · rename_i h
    rw [ByteArray.size_append]
    have h2 := h.2
    show 2 + e.size ≤ 255
    omega
  · exact Nat.zero_le _
/-- what lies along -/
def Hk (w W : World) (cc : Array Value) (p : Option Addr) (L : List Hq) : Prop := Bx W w.heap.size cc 149 ∧ Below w.heap.size w W ∧ HsAt W p L
theorem Hk.step {w W W' : World} {cc : Array Value} {p : Option Addr} {L : List Hq} (h : Hk w W cc p L) (hB : Below W.heap.size W W') : Hk w W' cc p L := ⟨h.1.below hB h.1.lt, bstep h.2.1 hB h.2.1.size, h.2.2.below hB⟩
theorem Hk.drew {w W : World} {cc : Array Value} {p : Option Addr} {L : List Hq} (h : Hk w W cc p L) : Hk w W.drew cc p L := ⟨h.1, h.2.1.drew, h.2.2⟩
theorem Hk.start (w : World) (cc : Array Value) {p : Option Addr} {L : List Hq} (h : HsAt w p L) : Hk w (w.alloc (.cells cc 149)) cc p L := ⟨World.alloc_heap_new w _, (Below.refl _ _).alloc (Nat.le_refl _) _, h.below ((Below.refl _ _).alloc (Nat.le_refl _) _)⟩
theorem Hk.cells {w W : World} {apex sl : ByteArray} {rd : Nat} {cap : Nat} {p : Option Addr} {L : List Hq} (h : Hk w W #[.string apex, .int .i64 (rd : Int), .string sl, .slice p L.length cap] p L) : W.cell? ⟨w.heap.size, 0, none⟩ = some (.string apex) ∧ W.cell? ⟨w.heap.size, 1, none⟩ = some (.int .i64 (rd : Int)) ∧ W.cell? ⟨w.heap.size, 2, none⟩ = some (.string sl) ∧ W.cell? ⟨w.heap.size, 3, none⟩ = some (.slice p L.length cap) := ⟨h.1.cell rfl, h.1.cell rfl, h.1.cell rfl, h.1.cell rfl⟩
/-- how encloser ends -/
def EnEnd (w' : World) (E : Option (ByteArray × Hq)) (e : ByteArray) (v : Value) : Prop := match E with
  | none => e = ⟨#[]⟩ ∧ v = .pointer none
  | some (e', x) => e = e' ∧ LkAt w' v (some x)
set_option maxRecDepth 100000 in
set_option maxHeartbeats 2000000 in
/-- (nsec3s).encloser -/
theorem encloser_any (apex : ByteArray) (rd : Nat) (sl : ByteArray) (L : List Hq) (p : Option Addr) (cap : Nat) (q : ByteArray) (w : World) (hL : L.length ≤ 1048576) (hat : HsAt w p L) (hs : sl.size ≤ 255) (hr : rd ≤ 50) (hq : q.size ≤ 1048576) (haz : apex.size ≤ 1048576) (cq ca : Nat) (hcq : cntI q = (cq : Int)) (hca : cntI apex = (ca : Int)) (hc1 : ca ≤ cq) (hc2 : cq ≤ 254) :
    Calls Tryz.prog 162 #[.agg #[.string apex, .int .i64 (rd : Int), .string sl, .slice p L.length cap], .string q] w fun r w' => (∃ e v, r = .returned (.tuple #[.string e, v]) ∧ EnEnd w' (enF (stF L rd sl) q ca (cq + 1 - ca)) e v) ∧ Below w.heap.size w w' := by
  have S0 := hide' (Hk.start w #[.string apex, .int .i64 (rd : Int), .string sl, .slice p L.length cap] hat)
  obtain ⟨W1, hW1⟩ : ∃ W1, w.alloc (.cells #[.string apex, .int .i64 (rd : Int), .string sl, .slice p L.length cap] 149) = W1 := ⟨_, rfl⟩
  rw [hW1] at S0
  have HCQ := hide' (fun W => count_any q W (small_max hq))
  have HCA := hide' (fun W => count_any apex W (small_max haz))
  rw [hcq] at HCQ
  rw [hca] at HCA
  have HTL := hide' (fun (m : Nat) W => tail_any q ((ca + m : Nat) : Int) W (small_max hq))
  have HST := hide' (fun (m : Nat) (W : World) (h : HsAt W p L) => standing_any apex rd sl L p cap (tailB q ((ca + m : Nat) : Int)) W hL h hs hr (by have := tailB_size q ((ca + m : Nat) : Int); omega))
  obtain ⟨k0, k1, k2, k3⟩ := S0.out.cells
  generalize hS : stF L rd sl = S at *
  obtain ⟨E, hE⟩ : ∃ E, enF S q ca (cq + 1 - ca) = E := ⟨_, rfl⟩
  rw [hE]
  have HE9 := hide' hE
  clear hat hs hr hq haz hcq hca hS hE
  go_enter Tryz.func162, Tryz.ntmps162
  go_wp2_with (go_at_call 50; with_reducible refine (HCQ.out _).mono ?_; rintro r w1 ⟨rfl, hB1⟩; have S1 := hide' (S0.out.step hB1); clear hB1 k0 k1 k2 k3)
  go_loopw [6] (fun iv wr => ∃ m : Nat, iv = .int .i64 (((ca + m : Nat) : Int) - 1) ∧ ca + m ≤ cq + 1 ∧ Hid (E = enF S q ca m) ∧ Hid (Hk w wr #[.string apex, .int .i64 (rd : Int), .string sl, .slice p L.length cap] p L)) (fun iv _ => (intOf iv + 1).toNat)
  case atStart => exact ⟨cq + 1 - ca, by congr 1; omega, by omega, HE9.out.symm, S1.out⟩
  case round =>
    obtain ⟨m, rfl, hm, HE, HS⟩ := hrel
    obtain ⟨k0, k1, k2, k3⟩ := HS.out.cells
    cases m with
    | zero =>
      have hlt : ¬ (((ca + 0 : Nat) : Int) - 1) ≥ (ca : Int) := by omega
      have HE0 : Hid (E = none) := HE.out
      clear HE
      go_wp2_with (go_at_call 50; with_reducible refine (HCA.out _).mono ?_; rintro r w2 ⟨rfl, hB2⟩; have S2 := hide' (HS.out.step hB2); clear hB2 k0 k1 k2 k3)
      go_ret2
      exact ⟨⟨_, _, rfl, by rw [HE0.out]; exact ⟨rfl, rfl⟩⟩, S2.out.2.1⟩
    | succ m =>
      have hcv : (((ca + (m + 1) : Nat) : Int) - 1) = ((ca + m : Nat) : Int) := by omega
      rw [hcv]
      have hge : ((ca + m : Nat) : Int) ≥ (ca : Int) := by omega
      have HT := hide' (HTL.out m)
      have HS1 := hide' (HST.out m)
      have HE1 : Hid (enF S q ca (m + 1) = match S (tailB q ((ca + m : Nat) : Int)) with | some x => some (tailB q ((ca + m : Nat) : Int), x) | none => enF S q ca m) := rfl
      rw [HE1.out] at HE
      clear HE1
      cases hsv : S (tailB q ((ca + m : Nat) : Int)) with
      | none =>
        rw [hsv] at HE HS1
        have HE2 : Hid (E = enF S q ca m) := HE.out
        clear hsv HE
        generalize tailB q ((ca + m : Nat) : Int) = e at *
        go_wp2_with (first
          | (go_at_call 50; with_reducible refine (HCA.out _).mono ?_; rintro r w2 ⟨rfl, hB2⟩; have S2 := hide' (HS.out.step hB2); clear hB2 k0 k1 k2 k3)
          | (go_at_call 49; refine (HT.out _).mono ?_; rintro r w3 ⟨rfl, hB3⟩; have S3 := hide' (S2.out.step hB3); clear hB3; obtain ⟨k0, k1, k2, k3⟩ := S3.out.cells)
          | (go_at_call 161; refine (HS1.out _ S3.out.2.2).mono ?_; rintro r w4 ⟨⟨v, rfl, hv⟩, hB4⟩; obtain rfl : v = .pointer none := hv; have S4 := hide' (S3.out.step hB4); clear hB4 k0 k1 k2 k3))
        refine ⟨⟨m, rfl, by omega, HE2.out, S4.out⟩, by simp [intOf]; omega⟩
      | some x =>
        rw [hsv] at HE HS1
        have HE2 : Hid (E = some (tailB q ((ca + m : Nat) : Int), x)) := HE.out
        clear hsv HE
        generalize tailB q ((ca + m : Nat) : Int) = e at *
        go_wp2_with (first
          | (go_at_call 50; with_reducible refine (HCA.out _).mono ?_; rintro r w2 ⟨rfl, hB2⟩; have S2 := hide' (HS.out.step hB2); clear hB2 k0 k1 k2 k3)
          | (go_at_call 49; refine (HT.out _).mono ?_; rintro r w3 ⟨rfl, hB3⟩; have S3 := hide' (S2.out.step hB3); clear hB3; obtain ⟨k0, k1, k2, k3⟩ := S3.out.cells)
          | (go_at_call 161; refine (HS1.out _ S3.out.2.2).mono ?_; rintro r w4 ⟨⟨v, rfl, hv⟩, hB4⟩; have HV := hide' hv; obtain ⟨gv, iv, rfl, -, -, -⟩ := hv; have S4 := hide' (S3.out.step hB4); clear hB4 k0 k1 k2 k3))
        go_ret2
        exact ⟨⟨_, _, rfl, by rw [HE2.out]; exact ⟨rfl, HV.out⟩⟩, S4.out.2.1⟩
/-- what they prove of a name -/
def jhB (L : List Hq) (rd : Nat) (sl q : ByteArray) (ca cq : Nat) (t : Int) : Int := match enF (stF L rd sl) q ca (cq + 1 - ca) with
  | none => 0
  | some (e, x) => if (e.toList == q.toList) = true then jaB (some x) t else if awayT x.ts = true then 0 else match cvF L rd sl (tailB q (cntI e + 1)) with
    | none => 0
    | some _ => match cvF L rd sl (starB e) with
      | some _ => 1
      | none => jaB (stF L rd sl (starB e)) t
/-- the same with a link -/
def Hv (w W : World) (cc : Array Value) (p : Option Addr) (L : List Hq) (g i : Nat) (x : Hq) : Prop := Hk w W cc p L ∧ g < W.heap.size ∧ W.cell? ⟨g, i, none⟩ = some (.int .i64 x.pl) ∧ W.cell? ⟨g, i + 1, none⟩ = some (.string x.ts)
theorem Hv.step {w W W' : World} {cc : Array Value} {p : Option Addr} {L : List Hq} {g i : Nat} {x : Hq} (h : Hv w W cc p L g i x) (hB : Below W.heap.size W W') : Hv w W' cc p L g i x := ⟨h.1.step hB, Nat.lt_of_lt_of_le h.2.1 hB.size, (hB.cell (p := ⟨g, i, none⟩) h.2.1).trans h.2.2.1, (hB.cell (p := ⟨g, i + 1, none⟩) h.2.1).trans h.2.2.2⟩
theorem Hv.drew {w W : World} {cc : Array Value} {p : Option Addr} {L : List Hq} {g i : Nat} {x : Hq} (h : Hv w W cc p L g i x) : Hv w W.drew cc p L g i x := ⟨h.1.drew, h.2⟩
theorem stF_mem {L : List Hq} {rd : Nat} {sl n : ByteArray} {x : Hq} (h : stF L rd sl n = some x) : x ∈ L := List.mem_of_find?_eq_some h
theorem enF_ok {L : List Hq} {rd : Nat} {sl q : ByteArray} {ca : Nat} : ∀ (m : Nat) {e : ByteArray} {x : Hq}, enF (stF L rd sl) q ca m = some (e, x) → x ∈ L ∧ e.size ≤ 255
  | 0, _, _, h => by cases h
  | m + 1, e, x, h => by
    rw [enF] at h
    cases hs : stF L rd sl (tailB q ((ca + m : Nat) : Int)) with
    | none => rw [hs] at h; exact enF_ok m h
    | some y =>
      rw [hs] at h
      obtain ⟨rfl, rfl⟩ : tailB q ((ca + m : Nat) : Int) = e ∧ y = x := by simpa using h
      exact ⟨stF_mem hs, tailB_size _ _⟩
set_option maxRecDepth 100000 in
set_option maxHeartbeats 4000000 in
/-- (nsec3s).judge -/
theorem judgeH_any (apex : ByteArray) (rd : Nat) (sl : ByteArray) (L : List Hq) (p : Option Addr) (cap : Nat) (q : ByteArray) (t : Int) (w : World) (hL : L.length ≤ 1048576) (hat : HsAt w p L) (hs : sl.size ≤ 255) (hr : rd ≤ 50) (hq : q.size ≤ 1048576) (haz : apex.size ≤ 1048576) (cq ca : Nat) (hcq : cntI q = (cq : Int)) (hca : cntI apex = (ca : Int)) (hc1 : ca ≤ cq) (hc2 : cq ≤ 254) (hts : ∀ x ∈ L, x.ts.size ≤ 65535) :
    Calls Tryz.prog 160 #[.agg #[.string apex, .int .i64 (rd : Int), .string sl, .slice p L.length cap], .string q, .int .i64 t] w fun r w' => r = .returned (.int .i64 (jhB L rd sl q ca cq t)) ∧ Below w.heap.size w w' := by
  have S0 := hide' (Hk.start w #[.string apex, .int .i64 (rd : Int), .string sl, .slice p L.length cap] hat)
  obtain ⟨W1, hW1⟩ : ∃ W1, w.alloc (.cells #[.string apex, .int .i64 (rd : Int), .string sl, .slice p L.length cap] 149) = W1 := ⟨_, rfl⟩
  rw [hW1] at S0
  obtain ⟨k0, k1, k2, k3⟩ := S0.out.cells
  have HEN := hide' (fun (W : World) (h : HsAt W p L) => encloser_any apex rd sl L p cap q W hL h hs hr hq haz cq ca hcq hca hc1 hc2)
  have HSS : Hid (∀ n x, stF L rd sl n = some x → x.ts.size ≤ 65535) := fun n x h => hts x (stF_mem h)
  have HJB : Hid (jhB L rd sl q ca cq t = match enF (stF L rd sl) q ca (cq + 1 - ca) with | none => 0 | some (e, x) => if (e.toList == q.toList) = true then jaB (some x) t else if awayT x.ts = true then 0 else match cvF L rd sl (tailB q (cntI e + 1)) with | none => 0 | some _ => match cvF L rd sl (starB e) with | some _ => 1 | none => jaB (stF L rd sl (starB e)) t) := rfl
  rw [HJB.out]
  clear HJB
  cases hen : enF (stF L rd sl) q ca (cq + 1 - ca) with
  | none =>
    rw [hen] at HEN
    go_enter Tryz.func160, Tryz.ntmps160
    go_wp2_with (go_at_call 162; refine (HEN.out _ S0.out.2.2).mono ?_; rintro r w1 ⟨⟨e, v, rfl, he⟩, hB1⟩; obtain ⟨rfl, rfl⟩ := he; have S1 := hide' (S0.out.step hB1); clear hB1 k0 k1 k2 k3)
    go_ret
    exact ⟨rfl, S1.out.2.1⟩
  | some ex =>
    obtain ⟨e, x⟩ := ex
    obtain ⟨hx, hez⟩ := enF_ok _ hen
    have hxs := hts x hx
    rw [hen] at HEN
    dsimp only at HEN ⊢
    have HJA := hide' (fun (o : Option Hq) (v : Value) (W : World) (h : LkAt W v o) (h2 : ∀ x, o = some x → x.ts.size ≤ 65535) => judgeAt_any v o t W h h2)
    have HX1 : Hid (∀ y, (some x : Option Hq) = some y → y.ts.size ≤ 65535) := fun y hy => by obtain rfl := Option.some.inj hy; exact hxs
    have HLA := hide' (fun W => leadsAway_any x.pl x.ts W hxs)
    have HBE := hide' (fun W => pbelow_any q e W hq (by omega))
    have HST := hide' (fun W => star_any e W (small_max (by omega)))
    have HC1 := hide' (fun (W : World) (h : HsAt W p L) => covering_any apex rd sl L p cap (tailB q (cntI e + 1)) W hL h hs hr (by have := tailB_size q (cntI e + 1); omega))
    have hsz : (starB e).size ≤ 1048576 := by have := starJ_size e; omega
    have HC2 := hide' (fun (W : World) (h : HsAt W p L) => covering_any apex rd sl L p cap (starB e) W hL h hs hr hsz)
    have HS2 := hide' (fun (W : World) (h : HsAt W p L) => standing_any apex rd sl L p cap (starB e) W hL h hs hr hsz)
    have HS3 : Hid (∀ y, stF L rd sl (starB e) = some y → y.ts.size ≤ 65535) := HSS.out _
    generalize tailB q (cntI e + 1) = b1 at *
    generalize starB e = se at *
    have hc3 : cvF L rd sl b1 = cvF L rd sl b1 := rfl
    generalize stF L rd sl se = os at *
    generalize cvF L rd sl se = o2 at *
    generalize cvF L rd sl b1 = o1 at *
    clear hen hx hat hs hr hq haz hcq hca hc1 hc2 hts HSS hsz hc3 hez hxs hL
    cases heq : (e.toList == q.toList) with
    | true =>
      rw [if_pos rfl]
      generalize hja : jaB (some x) t = J at *
      have HJA1 := hide' (fun (v : Value) (W : World) (h : LkAt W v (some x)) => HJA.out (some x) v W h HX1.out)
      rw [hja] at HJA1
      clear hja HJA
      go_enter Tryz.func160, Tryz.ntmps160
      go_wp2_with (first
        | (go_at_call 162; refine (HEN.out _ S0.out.2.2).mono ?_; rintro r w1 ⟨⟨e', v, rfl, he⟩, hB1⟩; obtain ⟨rfl, hv⟩ := he; have HV := hide' hv; obtain ⟨gv, iv, rfl, -, -, -⟩ := hv; have S1 := hide' (S0.out.step hB1); clear hB1 k0 k1 k2 k3)
        | (go_at_call 163; refine (HJA1.out _ _ HV.out).mono ?_; rintro r w2 ⟨rfl, hB2⟩))
      go_ret
      exact ⟨rfl, bstep S1.out.2.1 hB2 S1.out.2.1.size⟩
    | false =>
      rw [if_neg (by decide)]
      cases haw : awayT x.ts with
      | true =>
        rw [if_pos rfl]
        rw [haw] at HLA
        go_enter Tryz.func160, Tryz.ntmps160
        go_wp2_with (go_at_call 162; refine (HEN.out _ S0.out.2.2).mono ?_; rintro r w1 ⟨⟨e', v, rfl, he⟩, hB1⟩; obtain ⟨rfl, hv⟩ := he; obtain ⟨gv, iv, rfl, hgv, v0, v1⟩ := hv; have S1 : Hid (Hv w w1 #[.string apex, .int .i64 (rd : Int), .string sl, .slice p L.length cap] p L gv iv x) := ⟨S0.out.step hB1, hgv, v0, v1⟩; clear hB1 k0 k1 k2 k3 v0 v1)
        have QF : Hid (∀ V : World, Hv w V #[.string apex, .int .i64 (rd : Int), .string sl, .slice p L.length cap] p L gv iv x → V.cell? ⟨w.heap.size, 0, none⟩ = some (.string apex) ∧ V.cell? ⟨w.heap.size, 1, none⟩ = some (.int .i64 (rd : Int)) ∧ V.cell? ⟨w.heap.size, 2, none⟩ = some (.string sl) ∧ V.cell? ⟨w.heap.size, 3, none⟩ = some (.slice p L.length cap) ∧ V.cell? ⟨gv, iv, none⟩ = some (.int .i64 x.pl) ∧ V.cell? ⟨gv, iv + 1, none⟩ = some (.string x.ts)) := fun V h => ⟨h.1.1.cell rfl, h.1.1.cell rfl, h.1.1.cell rfl, h.1.1.cell rfl, h.2.2.1, h.2.2.2⟩
        obtain ⟨k0, k1, k2, k3, v0, v1⟩ := QF.out _ S1.out
        refine wp_region_held_drew (S := fun V => V.cell? ⟨w.heap.size, 0, none⟩ = some (.string apex) ∧ V.cell? ⟨w.heap.size, 1, none⟩ = some (.int .i64 (rd : Int)) ∧ V.cell? ⟨w.heap.size, 2, none⟩ = some (.string sl) ∧ V.cell? ⟨w.heap.size, 3, none⟩ = some (.slice p L.length cap) ∧ V.cell? ⟨gv, iv, none⟩ = some (.int .i64 x.pl) ∧ V.cell? ⟨gv, iv + 1, none⟩ = some (.string x.ts)) (by kernel_rfl) ?_ (fun hHeld => ?_)
        · (try dsimp only); go_keep
        refine takeJ 0 (some 27) (.pointer (some ⟨gv, iv, none⟩)) rfl rfl (by kernel_rfl) (by kernel_rfl) (by kernel_rfl) (fun _ _ _ h => h) (Or.inl ⟨by rfl, ?_⟩) (by assumption) ?_
        · intro w hSw; (try dsimp only at hSw); go_simp <;> (intros; omega)
        simp only [Act.put, List.setIfInBounds_toArray, List.set_cons_zero, List.set_cons_succ]
        refine takeJ 1 (some 28) (.pointer (some ⟨gv, iv, none⟩)) rfl rfl (by kernel_rfl) (by kernel_rfl) (by kernel_rfl) (fun _ _ _ h => h) (Or.inl ⟨by rfl, ?_⟩) (by assumption) ?_
        · intro w hSw; (try dsimp only at hSw); go_simp <;> (intros; omega)
        simp only [Act.put, List.setIfInBounds_toArray, List.set_cons_zero, List.set_cons_succ]
        refine takeJ 2 (some 29) (.agg #[.int .i64 x.pl, .string x.ts]) rfl rfl (by kernel_rfl) (by kernel_rfl) (by kernel_rfl) (fun _ _ _ h => h) (Or.inl ⟨by rfl, ?_⟩) (by assumption) ?_
        · intro w hSw; (try dsimp only at hSw); go_simp <;> (intros; omega)
        simp only [Act.put, List.setIfInBounds_toArray, List.set_cons_zero, List.set_cons_succ]
        refine wpAnyH_ready (rs := [3]) (by kernel_rfl) (by simp) ?_
        refine AllReadyH.cons rfl (fun K hK => ?_) AllReadyH.nil
        go_simp
        go_at_call 128; refine (HLA.out _).mono ?_; rintro r w2 ⟨rfl, hB⟩; have S2 := hide' (show Hv w w2 #[.string apex, .int .i64 (rd : Int), .string sl, .slice p L.length cap] p L gv iv x by first | exact S1.out.step hB | exact S1.out.drew.step hB); clear hB
        go_wp2_with fail
        refine hK.out _ _ (QF.out _ S2.out) (fun hHeld => ?_)
        clear hK K
        try simp only [Act.put, List.setIfInBounds_toArray, List.set_cons_zero, List.set_cons_succ]
        refine takeJ 4 (some 31) (.bool true) rfl rfl (by kernel_rfl) (by kernel_rfl) (by kernel_rfl) (fun _ _ _ h => h) (Or.inl ⟨by rfl, ?_⟩) (by assumption) ?_
        · intro w hSw; (try dsimp only at hSw); go_simp <;> (intros; omega)
        simp only [Act.put, List.setIfInBounds_toArray, List.set_cons_zero, List.set_cons_succ]
        refine takeJ 5 (some 32) undef rfl rfl (by kernel_rfl) (by kernel_rfl) (by kernel_rfl) (fun _ _ _ h => h) (Or.inr ⟨by rfl, rfl⟩) (by assumption) ?_
        simp only [Act.put, List.setIfInBounds_toArray, List.set_cons_zero, List.set_cons_succ]
        refine takeJ 6 (some 33) undef rfl rfl (by kernel_rfl) (by kernel_rfl) (by kernel_rfl) (fun _ _ _ h => h) (Or.inr ⟨by rfl, rfl⟩) (by assumption) ?_
        simp only [Act.put, List.setIfInBounds_toArray, List.set_cons_zero, List.set_cons_succ]
        refine takeJ 7 (some 34) undef rfl rfl (by kernel_rfl) (by kernel_rfl) (by kernel_rfl) (fun _ _ _ h => h) (Or.inr ⟨by rfl, rfl⟩) (by assumption) ?_
        simp only [Act.put, List.setIfInBounds_toArray, List.set_cons_zero, List.set_cons_succ]
        refine takeJ 8 (some 35) undef rfl rfl (by kernel_rfl) (by kernel_rfl) (by kernel_rfl) (fun _ _ _ h => h) (Or.inr ⟨by rfl, rfl⟩) (by assumption) ?_
        simp only [Act.put, List.setIfInBounds_toArray, List.set_cons_zero, List.set_cons_succ]
        refine takeJ 9 (some 36) undef rfl rfl (by kernel_rfl) (by kernel_rfl) (by kernel_rfl) (fun _ _ _ h => h) (Or.inr ⟨by rfl, rfl⟩) (by assumption) ?_
        simp only [Act.put, List.setIfInBounds_toArray, List.set_cons_zero, List.set_cons_succ]
        refine takeJ 10 (some 37) undef rfl rfl (by kernel_rfl) (by kernel_rfl) (by kernel_rfl) (fun _ _ _ h => h) (Or.inr ⟨by rfl, rfl⟩) (by assumption) ?_
        simp only [Act.put, List.setIfInBounds_toArray, List.set_cons_zero, List.set_cons_succ]
        refine takeJ 11 (some 38) (.bool true) rfl rfl (by kernel_rfl) (by kernel_rfl) (by kernel_rfl) (fun _ _ _ h => h) (Or.inl ⟨by rfl, ?_⟩) (by assumption) ?_
        · intro w hSw; (try dsimp only at hSw); go_simp <;> (intros; omega)
        simp only [Act.put, List.setIfInBounds_toArray, List.set_cons_zero, List.set_cons_succ]
        refine takeJ 12 (some 26) (.bool true) rfl rfl (by kernel_rfl) (by kernel_rfl) (by kernel_rfl) (fun _ _ _ h => h) (Or.inl ⟨by rfl, ?_⟩) (by assumption) ?_
        · intro w hSw; (try dsimp only at hSw); go_simp <;> (intros; omega)
        simp only [Act.put, List.setIfInBounds_toArray, List.set_cons_zero, List.set_cons_succ]
        refine wpAnyH_done (by kernel_rfl) ?_ _
        clear k0 k1 k2 k3 v0 v1
        go_wp2_with fail
        go_ret
        exact ⟨rfl, by first | exact S2.out.1.2.1 | exact S2.out.1.2.1.drew⟩
      | false =>
        rw [if_neg (by decide)]
        rw [haw] at HLA
        cases o1 with
        | none =>
          go_enter Tryz.func160, Tryz.ntmps160
          go_wp2_with (go_at_call 162; refine (HEN.out _ S0.out.2.2).mono ?_; rintro r w1 ⟨⟨e', v, rfl, he⟩, hB1⟩; obtain ⟨rfl, hv⟩ := he; obtain ⟨gv, iv, rfl, hgv, v0, v1⟩ := hv; have S1 : Hid (Hv w w1 #[.string apex, .int .i64 (rd : Int), .string sl, .slice p L.length cap] p L gv iv x) := ⟨S0.out.step hB1, hgv, v0, v1⟩; clear hB1 k0 k1 k2 k3 v0 v1)
          have QF : Hid (∀ V : World, Hv w V #[.string apex, .int .i64 (rd : Int), .string sl, .slice p L.length cap] p L gv iv x → V.cell? ⟨w.heap.size, 0, none⟩ = some (.string apex) ∧ V.cell? ⟨w.heap.size, 1, none⟩ = some (.int .i64 (rd : Int)) ∧ V.cell? ⟨w.heap.size, 2, none⟩ = some (.string sl) ∧ V.cell? ⟨w.heap.size, 3, none⟩ = some (.slice p L.length cap) ∧ V.cell? ⟨gv, iv, none⟩ = some (.int .i64 x.pl) ∧ V.cell? ⟨gv, iv + 1, none⟩ = some (.string x.ts)) := fun V h => ⟨h.1.1.cell rfl, h.1.1.cell rfl, h.1.1.cell rfl, h.1.1.cell rfl, h.2.2.1, h.2.2.2⟩
          obtain ⟨k0, k1, k2, k3, v0, v1⟩ := QF.out _ S1.out
          go_region_held3 (fun V => V.cell? ⟨w.heap.size, 0, none⟩ = some (.string apex) ∧ V.cell? ⟨w.heap.size, 1, none⟩ = some (.int .i64 (rd : Int)) ∧ V.cell? ⟨w.heap.size, 2, none⟩ = some (.string sl) ∧ V.cell? ⟨w.heap.size, 3, none⟩ = some (.slice p L.length cap) ∧ V.cell? ⟨gv, iv, none⟩ = some (.int .i64 x.pl) ∧ V.cell? ⟨gv, iv + 1, none⟩ = some (.string x.ts)) (first | go_keep | exact QF.out _ S4.out | exact QF.out _ S3.out | exact QF.out _ S2.out) (first
            | (go_at_call 128; refine (HLA.out _).mono ?_; rintro r w2 ⟨rfl, hB⟩; have S2 := hide' (show Hv w w2 #[.string apex, .int .i64 (rd : Int), .string sl, .slice p L.length cap] p L gv iv x by first | exact S1.out.step hB | exact S1.out.drew.step hB); clear hB)
            | (go_at_call 164; refine (HBE.out _).mono ?_; rintro r w3 ⟨rfl, hB⟩; have S3 := hide' (show Hv w w3 #[.string apex, .int .i64 (rd : Int), .string sl, .slice p L.length cap] p L gv iv x by first | exact S2.out.step hB | exact S2.out.drew.step hB); clear hB)
            | (go_at_call 158; refine (HC1.out _ (by first | exact S3.out.1.2.2 | exact S3.out.drew.1.2.2)).mono ?_; rintro r w4 ⟨⟨v, rfl, hv⟩, hB⟩; obtain rfl : v = .pointer none := hv; have S4 := hide' (show Hv w w4 #[.string apex, .int .i64 (rd : Int), .string sl, .slice p L.length cap] p L gv iv x by first | exact S3.out.step hB | exact S3.out.drew.step hB); clear hB))
          clear k0 k1 k2 k3 v0 v1
          go_wp2_with fail
          go_ret
          exact ⟨rfl, by first | exact S4.out.1.2.1 | exact S4.out.1.2.1.drew⟩
        | some y1 =>
          dsimp only
          cases o2 with
          | some y2 =>
            go_enter Tryz.func160, Tryz.ntmps160
            go_wp2_with (go_at_call 162; refine (HEN.out _ S0.out.2.2).mono ?_; rintro r w1 ⟨⟨e', v, rfl, he⟩, hB1⟩; obtain ⟨rfl, hv⟩ := he; obtain ⟨gv, iv, rfl, hgv, v0, v1⟩ := hv; have S1 : Hid (Hv w w1 #[.string apex, .int .i64 (rd : Int), .string sl, .slice p L.length cap] p L gv iv x) := ⟨S0.out.step hB1, hgv, v0, v1⟩; clear hB1 k0 k1 k2 k3 v0 v1)
            have QF : Hid (∀ V : World, Hv w V #[.string apex, .int .i64 (rd : Int), .string sl, .slice p L.length cap] p L gv iv x → V.cell? ⟨w.heap.size, 0, none⟩ = some (.string apex) ∧ V.cell? ⟨w.heap.size, 1, none⟩ = some (.int .i64 (rd : Int)) ∧ V.cell? ⟨w.heap.size, 2, none⟩ = some (.string sl) ∧ V.cell? ⟨w.heap.size, 3, none⟩ = some (.slice p L.length cap) ∧ V.cell? ⟨gv, iv, none⟩ = some (.int .i64 x.pl) ∧ V.cell? ⟨gv, iv + 1, none⟩ = some (.string x.ts)) := fun V h => ⟨h.1.1.cell rfl, h.1.1.cell rfl, h.1.1.cell rfl, h.1.1.cell rfl, h.2.2.1, h.2.2.2⟩
            obtain ⟨k0, k1, k2, k3, v0, v1⟩ := QF.out _ S1.out
            go_region_held3 (fun V => V.cell? ⟨w.heap.size, 0, none⟩ = some (.string apex) ∧ V.cell? ⟨w.heap.size, 1, none⟩ = some (.int .i64 (rd : Int)) ∧ V.cell? ⟨w.heap.size, 2, none⟩ = some (.string sl) ∧ V.cell? ⟨w.heap.size, 3, none⟩ = some (.slice p L.length cap) ∧ V.cell? ⟨gv, iv, none⟩ = some (.int .i64 x.pl) ∧ V.cell? ⟨gv, iv + 1, none⟩ = some (.string x.ts)) (first | go_keep | exact QF.out _ S4.out | exact QF.out _ S3.out | exact QF.out _ S2.out) (first
              | (go_at_call 128; refine (HLA.out _).mono ?_; rintro r w2 ⟨rfl, hB⟩; have S2 := hide' (show Hv w w2 #[.string apex, .int .i64 (rd : Int), .string sl, .slice p L.length cap] p L gv iv x by first | exact S1.out.step hB | exact S1.out.drew.step hB); clear hB)
              | (go_at_call 164; refine (HBE.out _).mono ?_; rintro r w3 ⟨rfl, hB⟩; have S3 := hide' (show Hv w w3 #[.string apex, .int .i64 (rd : Int), .string sl, .slice p L.length cap] p L gv iv x by first | exact S2.out.step hB | exact S2.out.drew.step hB); clear hB)
              | (go_at_call 158; refine (HC1.out _ (by first | exact S3.out.1.2.2 | exact S3.out.drew.1.2.2)).mono ?_; rintro r w4 ⟨⟨v, rfl, hv⟩, hB⟩; obtain ⟨gv4, iv4, rfl, -, -, -⟩ := hv; have S4 := hide' (show Hv w w4 #[.string apex, .int .i64 (rd : Int), .string sl, .slice p L.length cap] p L gv iv x by first | exact S3.out.step hB | exact S3.out.drew.step hB); clear hB))
            clear k0 k1 k2 k3 v0 v1
            go_wp2_with (first
              | (go_at_call 120; refine (HST.out _).mono ?_; rintro r w5 ⟨rfl, hB⟩; have S5 := hide' (show Hv w w5 #[.string apex, .int .i64 (rd : Int), .string sl, .slice p L.length cap] p L gv iv x by first | exact S4.out.step hB | exact S4.out.drew.step hB); clear hB; obtain ⟨k0, k1, k2, k3, v0, v1⟩ := QF.out _ S5.out)
              | (go_at_call 158; refine (HC2.out _ S5.out.1.2.2).mono ?_; rintro r w6 ⟨⟨v, rfl, hv⟩, hB⟩; obtain ⟨gv6, iv6, rfl, -, -, -⟩ := hv; have S6 := hide' (show Hv w w6 #[.string apex, .int .i64 (rd : Int), .string sl, .slice p L.length cap] p L gv iv x by first | exact S5.out.step hB | exact S5.out.drew.step hB); clear hB; clear k0 k1 k2 k3 v0 v1; obtain ⟨k0, k1, k2, k3, v0, v1⟩ := QF.out _ S6.out))
            go_ret
            exact ⟨rfl, S6.out.1.2.1⟩
          | none =>
            have HJA1 := hide' (fun (v : Value) (W : World) (h : LkAt W v os) => HJA.out os v W h HS3.out)
            generalize jaB os t = J at *
            clear HJA
            cases os with
            | none =>
              go_enter Tryz.func160, Tryz.ntmps160
              go_wp2_with (go_at_call 162; refine (HEN.out _ S0.out.2.2).mono ?_; rintro r w1 ⟨⟨e', v, rfl, he⟩, hB1⟩; obtain ⟨rfl, hv⟩ := he; obtain ⟨gv, iv, rfl, hgv, v0, v1⟩ := hv; have S1 : Hid (Hv w w1 #[.string apex, .int .i64 (rd : Int), .string sl, .slice p L.length cap] p L gv iv x) := ⟨S0.out.step hB1, hgv, v0, v1⟩; clear hB1 k0 k1 k2 k3 v0 v1)
              have QF : Hid (∀ V : World, Hv w V #[.string apex, .int .i64 (rd : Int), .string sl, .slice p L.length cap] p L gv iv x → V.cell? ⟨w.heap.size, 0, none⟩ = some (.string apex) ∧ V.cell? ⟨w.heap.size, 1, none⟩ = some (.int .i64 (rd : Int)) ∧ V.cell? ⟨w.heap.size, 2, none⟩ = some (.string sl) ∧ V.cell? ⟨w.heap.size, 3, none⟩ = some (.slice p L.length cap) ∧ V.cell? ⟨gv, iv, none⟩ = some (.int .i64 x.pl) ∧ V.cell? ⟨gv, iv + 1, none⟩ = some (.string x.ts)) := fun V h => ⟨h.1.1.cell rfl, h.1.1.cell rfl, h.1.1.cell rfl, h.1.1.cell rfl, h.2.2.1, h.2.2.2⟩
              obtain ⟨k0, k1, k2, k3, v0, v1⟩ := QF.out _ S1.out
              go_region_held3 (fun V => V.cell? ⟨w.heap.size, 0, none⟩ = some (.string apex) ∧ V.cell? ⟨w.heap.size, 1, none⟩ = some (.int .i64 (rd : Int)) ∧ V.cell? ⟨w.heap.size, 2, none⟩ = some (.string sl) ∧ V.cell? ⟨w.heap.size, 3, none⟩ = some (.slice p L.length cap) ∧ V.cell? ⟨gv, iv, none⟩ = some (.int .i64 x.pl) ∧ V.cell? ⟨gv, iv + 1, none⟩ = some (.string x.ts)) (first | go_keep | exact QF.out _ S4.out | exact QF.out _ S3.out | exact QF.out _ S2.out) (first
                | (go_at_call 128; refine (HLA.out _).mono ?_; rintro r w2 ⟨rfl, hB⟩; have S2 := hide' (show Hv w w2 #[.string apex, .int .i64 (rd : Int), .string sl, .slice p L.length cap] p L gv iv x by first | exact S1.out.step hB | exact S1.out.drew.step hB); clear hB)
                | (go_at_call 164; refine (HBE.out _).mono ?_; rintro r w3 ⟨rfl, hB⟩; have S3 := hide' (show Hv w w3 #[.string apex, .int .i64 (rd : Int), .string sl, .slice p L.length cap] p L gv iv x by first | exact S2.out.step hB | exact S2.out.drew.step hB); clear hB)
                | (go_at_call 158; refine (HC1.out _ (by first | exact S3.out.1.2.2 | exact S3.out.drew.1.2.2)).mono ?_; rintro r w4 ⟨⟨v, rfl, hv⟩, hB⟩; obtain ⟨gv4, iv4, rfl, -, -, -⟩ := hv; have S4 := hide' (show Hv w w4 #[.string apex, .int .i64 (rd : Int), .string sl, .slice p L.length cap] p L gv iv x by first | exact S3.out.step hB | exact S3.out.drew.step hB); clear hB))
              clear k0 k1 k2 k3 v0 v1
              go_wp2_with (first
                | (go_at_call 120; refine (HST.out _).mono ?_; rintro r w5 ⟨rfl, hB⟩; have S5 := hide' (show Hv w w5 #[.string apex, .int .i64 (rd : Int), .string sl, .slice p L.length cap] p L gv iv x by first | exact S4.out.step hB | exact S4.out.drew.step hB); clear hB; obtain ⟨k0, k1, k2, k3, v0, v1⟩ := QF.out _ S5.out)
                | (go_at_call 158; refine (HC2.out _ S5.out.1.2.2).mono ?_; rintro r w6 ⟨⟨v, rfl, hv⟩, hB⟩; obtain rfl : v = .pointer none := hv; have S6 := hide' (show Hv w w6 #[.string apex, .int .i64 (rd : Int), .string sl, .slice p L.length cap] p L gv iv x by first | exact S5.out.step hB | exact S5.out.drew.step hB); clear hB; clear k0 k1 k2 k3 v0 v1; obtain ⟨k0, k1, k2, k3, v0, v1⟩ := QF.out _ S6.out)
                | (go_at_call 161; refine (HS2.out _ S6.out.1.2.2).mono ?_; rintro r w7 ⟨⟨v, rfl, hv⟩, hB⟩; have HV7 := hide' hv; obtain rfl : v = .pointer none := hv; have S7 := hide' (show Hv w w7 #[.string apex, .int .i64 (rd : Int), .string sl, .slice p L.length cap] p L gv iv x by first | exact S6.out.step hB | exact S6.out.drew.step hB); clear hB; clear k0 k1 k2 k3 v0 v1)
                | (go_at_call 163; refine (HJA1.out _ _ HV7.out).mono ?_; rintro r w8 ⟨rfl, hB8⟩))
              go_ret
              exact ⟨rfl, bstep S7.out.1.2.1 hB8 S7.out.1.2.1.size⟩
            | some y3 =>
              go_enter Tryz.func160, Tryz.ntmps160
              go_wp2_with (go_at_call 162; refine (HEN.out _ S0.out.2.2).mono ?_; rintro r w1 ⟨⟨e', v, rfl, he⟩, hB1⟩; obtain ⟨rfl, hv⟩ := he; obtain ⟨gv, iv, rfl, hgv, v0, v1⟩ := hv; have S1 : Hid (Hv w w1 #[.string apex, .int .i64 (rd : Int), .string sl, .slice p L.length cap] p L gv iv x) := ⟨S0.out.step hB1, hgv, v0, v1⟩; clear hB1 k0 k1 k2 k3 v0 v1)
              have QF : Hid (∀ V : World, Hv w V #[.string apex, .int .i64 (rd : Int), .string sl, .slice p L.length cap] p L gv iv x → V.cell? ⟨w.heap.size, 0, none⟩ = some (.string apex) ∧ V.cell? ⟨w.heap.size, 1, none⟩ = some (.int .i64 (rd : Int)) ∧ V.cell? ⟨w.heap.size, 2, none⟩ = some (.string sl) ∧ V.cell? ⟨w.heap.size, 3, none⟩ = some (.slice p L.length cap) ∧ V.cell? ⟨gv, iv, none⟩ = some (.int .i64 x.pl) ∧ V.cell? ⟨gv, iv + 1, none⟩ = some (.string x.ts)) := fun V h => ⟨h.1.1.cell rfl, h.1.1.cell rfl, h.1.1.cell rfl, h.1.1.cell rfl, h.2.2.1, h.2.2.2⟩
              obtain ⟨k0, k1, k2, k3, v0, v1⟩ := QF.out _ S1.out
              go_region_held3 (fun V => V.cell? ⟨w.heap.size, 0, none⟩ = some (.string apex) ∧ V.cell? ⟨w.heap.size, 1, none⟩ = some (.int .i64 (rd : Int)) ∧ V.cell? ⟨w.heap.size, 2, none⟩ = some (.string sl) ∧ V.cell? ⟨w.heap.size, 3, none⟩ = some (.slice p L.length cap) ∧ V.cell? ⟨gv, iv, none⟩ = some (.int .i64 x.pl) ∧ V.cell? ⟨gv, iv + 1, none⟩ = some (.string x.ts)) (first | go_keep | exact QF.out _ S4.out | exact QF.out _ S3.out | exact QF.out _ S2.out) (first
                | (go_at_call 128; refine (HLA.out _).mono ?_; rintro r w2 ⟨rfl, hB⟩; have S2 := hide' (show Hv w w2 #[.string apex, .int .i64 (rd : Int), .string sl, .slice p L.length cap] p L gv iv x by first | exact S1.out.step hB | exact S1.out.drew.step hB); clear hB)
                | (go_at_call 164; refine (HBE.out _).mono ?_; rintro r w3 ⟨rfl, hB⟩; have S3 := hide' (show Hv w w3 #[.string apex, .int .i64 (rd : Int), .string sl, .slice p L.length cap] p L gv iv x by first | exact S2.out.step hB | exact S2.out.drew.step hB); clear hB)
                | (go_at_call 158; refine (HC1.out _ (by first | exact S3.out.1.2.2 | exact S3.out.drew.1.2.2)).mono ?_; rintro r w4 ⟨⟨v, rfl, hv⟩, hB⟩; obtain ⟨gv4, iv4, rfl, -, -, -⟩ := hv; have S4 := hide' (show Hv w w4 #[.string apex, .int .i64 (rd : Int), .string sl, .slice p L.length cap] p L gv iv x by first | exact S3.out.step hB | exact S3.out.drew.step hB); clear hB))
              clear k0 k1 k2 k3 v0 v1
              go_wp2_with (first
                | (go_at_call 120; refine (HST.out _).mono ?_; rintro r w5 ⟨rfl, hB⟩; have S5 := hide' (show Hv w w5 #[.string apex, .int .i64 (rd : Int), .string sl, .slice p L.length cap] p L gv iv x by first | exact S4.out.step hB | exact S4.out.drew.step hB); clear hB; obtain ⟨k0, k1, k2, k3, v0, v1⟩ := QF.out _ S5.out)
                | (go_at_call 158; refine (HC2.out _ S5.out.1.2.2).mono ?_; rintro r w6 ⟨⟨v, rfl, hv⟩, hB⟩; obtain rfl : v = .pointer none := hv; have S6 := hide' (show Hv w w6 #[.string apex, .int .i64 (rd : Int), .string sl, .slice p L.length cap] p L gv iv x by first | exact S5.out.step hB | exact S5.out.drew.step hB); clear hB; clear k0 k1 k2 k3 v0 v1; obtain ⟨k0, k1, k2, k3, v0, v1⟩ := QF.out _ S6.out)
                | (go_at_call 161; refine (HS2.out _ S6.out.1.2.2).mono ?_; rintro r w7 ⟨⟨v, rfl, hv⟩, hB⟩; have HV7 := hide' hv; obtain ⟨gv7, iv7, rfl, -, -, -⟩ := hv; have S7 := hide' (show Hv w w7 #[.string apex, .int .i64 (rd : Int), .string sl, .slice p L.length cap] p L gv iv x by first | exact S6.out.step hB | exact S6.out.drew.step hB); clear hB; clear k0 k1 k2 k3 v0 v1)
                | (go_at_call 163; refine (HJA1.out _ _ HV7.out).mono ?_; rintro r w8 ⟨rfl, hB8⟩))
              go_ret
              exact ⟨rfl, bstep S7.out.1.2.1 hB8 S7.out.1.2.1.size⟩
end Go.Proofs.YtgekfhghambacaaGreat
