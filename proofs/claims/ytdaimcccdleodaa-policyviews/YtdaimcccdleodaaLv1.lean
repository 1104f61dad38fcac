import Derived.Test.YtdaimcccdleodaaLi5
import Derived.Test.YtdaimcccdleodaaRw0
/-
  Chapter 15: views. (The verifier's own text.)
-/
namespace Go.Proofs.Ytdaimcccdleodaa
set_option linter.unusedVariables false
set_option linter.unusedSimpArgs false
open Go.RowKit Go.Shelf

theorem bstep0 {B : Nat} {a b c : World} (h : Below B a b) (k : Below b.heap.size b c) (hB : B ≤ b.heap.size) : Below B a c := h.trans (k.mono hB)
/-- nets, views -/
abbrev Pf := ByteArray × Int
def pfV (x : Pf) : List Value := [.string x.1, .int .i64 x.2]
abbrev PfAt (w : World) (p : Option Addr) (l : List Pf) : Prop := RowAt 2 pfV w p l
structure Vw where
  name : ByteArray
  p : Option Addr
  cap : Nat
  nets : List Pf
def vwV (v : Vw) : List Value := [.string v.name, .slice v.p v.nets.length v.cap]
abbrev VwAt (w : World) (p : Option Addr) (l : List Vw) : Prop := RowAt 2 vwV w p l
/-- the first one's number -/
def fiZ {α : Type} (P : α → Bool) (L : List α) : Int := match L.findIdx? P with
  | some i => (i : Int)
  | none => -1
theorem fiZ_yes {α : Type} {P : α → Bool} {L : List α} {k : Nat} (hk : k < L.length) (h1 : P L[k] = true) (h2 : ∀ j (hj : j < L.length), j < k → P L[j] = false) : fiZ P L = (k : Int) := by
  have : L.findIdx? P = some k := List.findIdx?_eq_some_iff_getElem.2 ⟨hk, h1, fun j hj => by rw [h2 j (by omega) hj]; simp⟩
  unfold fiZ
  rw [this]
theorem fiZ_no {α : Type} {P : α → Bool} {L : List α} (h : ∀ j (hj : j < L.length), P L[j] = false) : fiZ P L = -1 := by
  have : L.findIdx? P = none := List.findIdx?_eq_none_iff.2 (fun x hx => by
    obtain ⟨j, hj, rfl⟩ := List.getElem_of_mem hx
    exact h j hj)
  unfold fiZ
  rw [this]
theorem fiZ_any {α : Type} (P : α → Bool) (L : List α) : decide (0 ≤ fiZ P L) = L.any P := by
  unfold fiZ
  cases h : L.findIdx? P with
  | none =>
    have := List.findIdx?_eq_none_iff.1 h
    rw [eq_comm, decide_eq_false (by simp), List.any_eq_false]
    intro x hx
    rw [this x hx]
    simp
  | some i =>
    obtain ⟨hi, h1, _⟩ := List.findIdx?_eq_some_iff_getElem.1 h
    rw [eq_comm, decide_eq_true (by simp), List.any_eq_true]
    exact ⟨_, List.getElem_mem hi, h1⟩
def forB (s : ByteArray) (v : Vw) : Bool := v.nets.any fun n => insB n.1 n.2 s
set_option maxRecDepth 100000 in
/-- isFor's function -/
theorem net_any (s A : ByteArray) (b : Int) (B : Nat) (w : World) (hB : B < w.heap.size) (hc : w.cell? ⟨B, 0, none⟩ = some (.string s)) :
    Calls Try.prog 24 #[.agg #[.string A, .int .i64 b], .pointer (some ⟨B, 0, none⟩)] w fun r w' => r = .returned (.bool (insB A b s)) ∧ Below w.heap.size w w' := by
  obtain ⟨W, hW⟩ : ∃ W, w.alloc (.cells #[.string A, .int .i64 b] 23) = W := ⟨_, rfl⟩
  have h0 : Bx W w.heap.size #[.string A, .int .i64 b] 23 := hW ▸ World.alloc_heap_new w _
  have HB : Hid (Below w.heap.size w W) := hW ▸ (Below.refl _ _).alloc (Nat.le_refl _) _
  have hc' : W.cell? ⟨B, 0, none⟩ = some (.string s) := (HB.out.cell (p := ⟨B, 0, none⟩) hB).trans hc
  have k0 : W.cell? ⟨w.heap.size, 0, none⟩ = some (.string A) := h0.cell rfl
  have k1 : W.cell? ⟨w.heap.size, 1, none⟩ = some (.int .i64 b) := h0.cell rfl
  have HI := hidq (inside_any A s b W)
  clear h0 hc
  go_enter Try.func24, Try.ntmps24
  go_wp2_with (go_at_call 7; (with_reducible refine HI.out.mono ?_); rintro e w1 ⟨rfl, hB1⟩)
  go_ret
  exact ⟨rfl, bstep0 HB.out hB1 HB.out.size⟩

set_option maxRecDepth 100000 in
set_option maxHeartbeats 1000000 in
/-- slices.IndexFunc, with policy.isFor$1 -/
theorem indexNet_any (L : List Pf) (p : Option Addr) (cap : Nat) (cv : Value) (P : Pf → Bool) (w : World) (hL : L.length ≤ 9223372036854775807) (hat : PfAt w p L)
    (hf : ∀ (k : Nat) (hk : k < L.length) (W : World), Below w.heap.size w W → Calls Try.prog 24 #[.agg #[.string L[k].1, .int .i64 L[k].2], cv] W fun r w' => r = .returned (.bool (P L[k])) ∧ Below W.heap.size W w') :
    Calls Try.prog 25 #[.slice p L.length cap, .func (Fn.func 24) #[] #[cv]] w fun r w' => r = .returned (.int .i64 (fiZ P L)) ∧ Below w.heap.size w w' := by
  have HF := hidq hf
  have HA := hidq hat
  clear hf hat
  have HYES := hidq (fun k hk h1 h2 => fiZ_yes (P := P) (L := L) (k := k) hk h1 h2)
  have HNO := hidq (fiZ_no (P := P) (L := L))
  generalize fiZ P L = R at *
  go_enter Try.func25, Try.ntmps25
  go_wp2_with fail
  go_loopw [8] (fun i wr => ∃ k : Nat, i = .int .i64 (k : Int) ∧ k ≤ L.length ∧ Hid (∀ j (hj : j < L.length), j < k → P L[j] = false) ∧ Below w.heap.size w wr) (fun i _ => L.length - (intOf i).toNat)
  case atStart => exact ⟨0, rfl, Nat.zero_le _, (fun j _ h => absurd h (Nat.not_lt_zero _)), Below.refl _ _⟩
  case round =>
    obtain ⟨k, rfl, hk, HN, hBr⟩ := hrel
    have HBr := hidq hBr
    by_cases hlt : k < L.length
    · obtain ⟨g, off, rfl, hg, ec⟩ := row_below' HA.out hBr k hlt
      have e0 := ec 0 (by omega)
      have e1 := ec 1 (by omega)
      simp only [pfV, Nat.add_zero, List.getElem?_cons_zero, List.getElem?_cons_succ] at e0 e1
      have HC := hidq (HF.out k hlt wr hBr)
      have HYE := hidq (HYES.out k hlt)
      obtain ⟨x, hx⟩ : ∃ x, L[k] = x := ⟨_, rfl⟩
      have HX := hidq hx
      rw [hx] at HC e0 e1 HYE
      clear hx hBr ec
      cases hp : P x with
      | true =>
        rw [hp] at HC
        have HP := hidq hp
        clear hp
        go_wp2_with (go_at_call 24; refine HC.out.mono ?_; rintro r w2 ⟨rfl, hB2⟩)
        go_ret
        refine ⟨?_, bstep0 HBr.out hB2 HBr.out.size⟩
        rw [HYE.out HP.out HN.out]
        rfl
      | false =>
        rw [hp] at HC
        have HP := hidq hp
        clear hp
        go_wp2_with (go_at_call 24; refine HC.out.mono ?_; rintro r w2 ⟨rfl, hB2⟩)
        refine ⟨⟨k + 1, by go_num, by omega, ?_, bstep0 HBr.out hB2 HBr.out.size⟩, by simp [intOf]; omega⟩
        intro j hj hjk
        rcases Nat.lt_or_ge j k with h | h
        · exact HN.out j hj h
        · obtain rfl : j = k := by omega
          rw [HX.out]; exact HP.out
    · obtain rfl : k = L.length := by omega
      go_wp2_with fail
      go_ret
      refine ⟨?_, HBr.out⟩
      rw [HNO.out (fun j hj => HN.out j hj hj)]
      rfl

set_option maxRecDepth 100000 in
/-- slices.ContainsFunc of nets -/
theorem containsNet_any (L : List Pf) (p : Option Addr) (cap : Nat) (cv : Value) (P : Pf → Bool) (w : World) (hL : L.length ≤ 9223372036854775807) (hat : PfAt w p L)
    (hf : ∀ (k : Nat) (hk : k < L.length) (W : World), Below w.heap.size w W → Calls Try.prog 24 #[.agg #[.string L[k].1, .int .i64 L[k].2], cv] W fun r w' => r = .returned (.bool (P L[k])) ∧ Below W.heap.size W w') :
    Calls Try.prog 23 #[.slice p L.length cap, .func (Fn.func 24) #[] #[cv]] w fun r w' => r = .returned (.bool (L.any P)) ∧ Below w.heap.size w w' := by
  have HI := hidq (indexNet_any L p cap cv P w hL hat hf)
  have HZ := hidq (fiZ_any P L)
  generalize fiZ P L = R at *
  generalize L.any P = U at *
  clear hf hat
  go_enter Try.func23, Try.ntmps23
  go_wp2_with (go_at_call 25; refine HI.out.mono ?_; rintro r w1 ⟨rfl, hB1⟩)
  go_ret
  exact ⟨by rw [← HZ.out]; rfl, hB1⟩
set_option maxRecDepth 100000 in
/-- policy.isFor -/
theorem isFor_any (v : Vw) (s : ByteArray) (w : World) (hL : v.nets.length ≤ 9223372036854775807) (hat : PfAt w v.p v.nets) :
    Calls Try.prog 19 #[.agg #[.string v.name, .slice v.p v.nets.length v.cap], .string s] w fun r w' => r = .returned (.bool (forB s v)) ∧ Below w.heap.size w w' := by
  obtain ⟨W, hW⟩ : ∃ W, (w.alloc (.cells #[.string v.name, .slice v.p v.nets.length v.cap] 50)).alloc (.cells #[.string s] 9) = W := ⟨_, rfl⟩
  have HB : Hid (Below w.heap.size w W) := hW ▸ ((Below.refl _ w).alloc (Nat.le_refl _) _).alloc (by simp) _
  have h1 : Bx W (w.heap.size + 1) #[.string s] 9 := by
    have := World.alloc_heap_new (w.alloc (.cells #[.string v.name, .slice v.p v.nets.length v.cap] 50)) (.cells #[.string s] 9)
    have e : (w.alloc (.cells #[.string v.name, .slice v.p v.nets.length v.cap] 50)).heap.size = w.heap.size + 1 := by simp
    rw [e, hW] at this
    exact this
  have h0 : Bx W w.heap.size #[.string v.name, .slice v.p v.nets.length v.cap] 50 := hW ▸ (Below.heap_alloc _ _ _ (by simp)).trans (World.alloc_heap_new w _)
  have k1 : W.cell? ⟨w.heap.size, 1, none⟩ = some (.slice v.p v.nets.length v.cap) := h0.cell rfl
  have kS : W.cell? ⟨w.heap.size + 1, 0, none⟩ = some (.string s) := h1.cell rfl
  have HC := hidq (containsNet_any v.nets v.p v.cap (.pointer (some ⟨w.heap.size + 1, 0, none⟩)) (fun n => insB n.1 n.2 s) W hL (row_below' hat HB.out) (fun k hk W' hb => net_any s _ _ _ W' (Nat.lt_of_lt_of_le h1.lt hb.size) ((hb.cell (p := ⟨w.heap.size + 1, 0, none⟩) h1.lt).trans kS)))
  have HO : Hid (forB s v = v.nets.any fun n => insB n.1 n.2 s) := rfl
  rw [HO.out]
  generalize (v.nets.any fun n => insB n.1 n.2 s) = bb at *
  clear h0 h1 hat HO
  go_enter Try.func19, Try.ntmps19
  go_wp2_with (go_at_call 23; refine HC.out.mono ?_; rintro r w1 ⟨rfl, hB1⟩)
  go_ret
  exact ⟨rfl, bstep0 HB.out hB1 HB.out.size⟩
set_option maxRecDepth 100000 in
/-- Choose's function -/
theorem view_any (v : Vw) (s : ByteArray) (B : Nat) (w : World) (hL : v.nets.length ≤ 9223372036854775807) (hat : PfAt w v.p v.nets) (hB : B < w.heap.size) (hc : w.cell? ⟨B, 0, none⟩ = some (.string s)) :
    Calls Try.prog 18 #[.agg #[.string v.name, .slice v.p v.nets.length v.cap], .pointer (some ⟨B, 0, none⟩)] w fun r w' => r = .returned (.bool (forB s v)) ∧ Below w.heap.size w w' := by
  obtain ⟨W, hW⟩ : ∃ W, w.alloc (.cells #[.string v.name, .slice v.p v.nets.length v.cap] 50) = W := ⟨_, rfl⟩
  have h0 : Bx W w.heap.size #[.string v.name, .slice v.p v.nets.length v.cap] 50 := hW ▸ World.alloc_heap_new w _
  have HB : Hid (Below w.heap.size w W) := hW ▸ (Below.refl _ _).alloc (Nat.le_refl _) _
  have hc' : W.cell? ⟨B, 0, none⟩ = some (.string s) := (HB.out.cell (p := ⟨B, 0, none⟩) hB).trans hc
  have k0 : W.cell? ⟨w.heap.size, 0, none⟩ = some (.string v.name) := h0.cell rfl
  have k1 : W.cell? ⟨w.heap.size, 1, none⟩ = some (.slice v.p v.nets.length v.cap) := h0.cell rfl
  have HI := hidq (isFor_any v s W hL (row_below' hat HB.out))
  generalize forB s v = R at *
  clear h0 hc hat
  go_enter Try.func18, Try.ntmps18
  go_wp2_with (go_at_call 19; (with_reducible refine HI.out.mono ?_); rintro e w1 ⟨rfl, hB1⟩)
  go_ret
  exact ⟨rfl, bstep0 HB.out hB1 HB.out.size⟩

set_option maxRecDepth 100000 in
set_option maxHeartbeats 1000000 in
/-- slices.IndexFunc, with policy.Choose$1 -/
theorem indexView_any (L : List Vw) (p : Option Addr) (cap : Nat) (cv : Value) (P : Vw → Bool) (w : World) (hL : L.length ≤ 9223372036854775807) (hat : VwAt w p L)
    (hf : ∀ (k : Nat) (hk : k < L.length) (W : World), Below w.heap.size w W → Calls Try.prog 18 #[.agg #[.string L[k].name, .slice L[k].p L[k].nets.length L[k].cap], cv] W fun r w' => r = .returned (.bool (P L[k])) ∧ Below W.heap.size W w') :
    Calls Try.prog 17 #[.slice p L.length cap, .func (Fn.func 18) #[] #[cv]] w fun r w' => r = .returned (.int .i64 (fiZ P L)) ∧ Below w.heap.size w w' := by
  have HF := hidq hf
  have HA := hidq hat
  clear hf hat
  have HYES := hidq (fun k hk h1 h2 => fiZ_yes (P := P) (L := L) (k := k) hk h1 h2)
  have HNO := hidq (fiZ_no (P := P) (L := L))
  generalize fiZ P L = R at *
  go_enter Try.func17, Try.ntmps17
  go_wp2_with fail
  go_loopw [8] (fun i wr => ∃ k : Nat, i = .int .i64 (k : Int) ∧ k ≤ L.length ∧ Hid (∀ j (hj : j < L.length), j < k → P L[j] = false) ∧ Below w.heap.size w wr) (fun i _ => L.length - (intOf i).toNat)
  case atStart => exact ⟨0, rfl, Nat.zero_le _, (fun j _ h => absurd h (Nat.not_lt_zero _)), Below.refl _ _⟩
  case round =>
    obtain ⟨k, rfl, hk, HN, hBr⟩ := hrel
    have HBr := hidq hBr
    by_cases hlt : k < L.length
    · obtain ⟨g, off, rfl, hg, ec⟩ := row_below' HA.out hBr k hlt
      have e0 := ec 0 (by omega)
      have e1 := ec 1 (by omega)
      simp only [vwV, Nat.add_zero, List.getElem?_cons_zero, List.getElem?_cons_succ] at e0 e1
      have HC := hidq (HF.out k hlt wr hBr)
      have HYE := hidq (HYES.out k hlt)
      obtain ⟨x, hx⟩ : ∃ x, L[k] = x := ⟨_, rfl⟩
      have HX := hidq hx
      rw [hx] at HC e0 e1 HYE
      clear hx hBr ec
      cases hp : P x with
      | true =>
        rw [hp] at HC
        have HP := hidq hp
        clear hp
        go_wp2_with (go_at_call 18; refine HC.out.mono ?_; rintro r w2 ⟨rfl, hB2⟩)
        go_ret
        refine ⟨?_, bstep0 HBr.out hB2 HBr.out.size⟩
        rw [HYE.out HP.out HN.out]
        rfl
      | false =>
        rw [hp] at HC
        have HP := hidq hp
        clear hp
        go_wp2_with (go_at_call 18; refine HC.out.mono ?_; rintro r w2 ⟨rfl, hB2⟩)
        refine ⟨⟨k + 1, by go_num, by omega, ?_, bstep0 HBr.out hB2 HBr.out.size⟩, by simp [intOf]; omega⟩
        intro j hj hjk
        rcases Nat.lt_or_ge j k with h | h
        · exact HN.out j hj h
        · obtain rfl : j = k := by omega
          rw [HX.out]; exact HP.out
    · obtain rfl : k = L.length := by omega
      go_wp2_with fail
      go_ret
      refine ⟨?_, HBr.out⟩
      rw [HNO.out (fun j hj => HN.out j hj hj)]
      rfl

set_option maxRecDepth 100000 in
/-- policy.Choose -/
theorem choose_any (L : List Vw) (p : Option Addr) (cap : Nat) (s : ByteArray) (w : World) (hL : L.length ≤ 9223372036854775807) (hat : VwAt w p L) (hin : ∀ v ∈ L, v.nets.length ≤ 9223372036854775807 ∧ PfAt w v.p v.nets) :
    Calls Try.prog 9 #[.slice p L.length cap, .string s] w fun r w' => r = .returned (.int .i64 (fiZ (forB s) L)) ∧ Below w.heap.size w w' := by
  obtain ⟨W, hW⟩ : ∃ W, w.alloc (.cells #[.string s] 9) = W := ⟨_, rfl⟩
  have h0 : Bx W w.heap.size #[.string s] 9 := hW ▸ World.alloc_heap_new w _
  have HB : Hid (Below w.heap.size w W) := hW ▸ (Below.refl _ _).alloc (Nat.le_refl _) _
  have k0 : W.cell? ⟨w.heap.size, 0, none⟩ = some (.string s) := h0.cell rfl
  have HI := hidq (indexView_any L p cap (.pointer (some ⟨w.heap.size, 0, none⟩)) (forB s) W hL (row_below' hat HB.out) (fun k hk W' hb => view_any L[k] s _ W' (hin _ (List.getElem_mem hk)).1 (row_below' (row_below' (hin _ (List.getElem_mem hk)).2 HB.out) hb) (Nat.lt_of_lt_of_le h0.lt hb.size) ((hb.cell (p := ⟨w.heap.size, 0, none⟩) h0.lt).trans k0)))
  generalize fiZ (forB s) L = R at *
  clear h0 hat hin
  go_enter Try.func9, Try.ntmps9
  go_wp2_with (go_at_call 17; refine HI.out.mono ?_; rintro r w1 ⟨rfl, hB1⟩)
  go_ret
  exact ⟨rfl, bstep0 HB.out hB1 HB.out.size⟩
end Go.Proofs.Ytdaimcccdleodaa
