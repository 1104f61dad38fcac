import Derived.Test.YtiaccimdjfdkgaaGreatDoorMy3G
import Derived.Test.YtiaccimdjfdkgaaGreatDoorAs1G
import Derived.Test.YtiaccimdjfdkgaaGreatDoorMx3G
/-
  Proofs: master.Parse, of a file whose entries are told without a fault. (The verifier's own text.)
-/
namespace Go.Proofs.YtiaccimdjfdkgaaGreatDoor
set_option linter.unusedVariables false
set_option linter.unusedSimpArgs false
open Go.RowKit Go.Shelf Go.Proofs.YtiaccimdjfdkgaaGreatDoor.Nm

/-- what a reader holds -/
structure Sx where
  o : ByteArray
  ow : ByteArray
  la : Int
  R : List Rn
def Iv (B M : Nat) (fs : Value) (S : Nat → Sx) (W1 : World) (i : Nat) (V : World) : Prop := Rr W1 B (S i).o (S i).ow (-1) (S i).la fs (.map (some M)) (S i).R V
/-- the words of an entry, later -/
theorem wr_wa {W1 V : World} {B base : Nat} {z : Ez} (h : WR W1 base z) (hB : B < base) (hR : Rg W1 V B) : WA V z.2.1 0 z.1.ws := fun j y hj => by
  have hlt := h.lt
  have key : ∀ a : Nat, V.cell? ⟨z.2.1, a, none⟩ = W1.cell? ⟨z.2.1, a, none⟩ := fun a => by
    have e1 : V.heap[z.2.1]? = W1.heap[z.2.1]? := hR.block z.2.1 hlt.2 (by simp; omega)
    simp only [World.cell?, e1]
  have g : ∀ (ws : List Wd) (j : Nat) (y : Wd), ws[j]? = some y → (wcells ws)[j * 2]? = some (.string y.t) ∧ (wcells ws)[j * 2 + 1]? = some (.bool y.q) := by
    intro ws
    induction ws with
    | nil => intro j y h; cases h
    | cons u ws ih =>
      intro j y h
      have e : wcells (u :: ws) = .string u.t :: .bool u.q :: wcells ws := by simp [wcells]
      rw [e]
      cases j with
      | zero =>
        have : u = y := by simpa using h
        subst this
        exact ⟨rfl, rfl⟩
      | succ j =>
        have := ih j y (by simpa using h)
        rw [show (j + 1) * 2 = j * 2 + 1 + 1 by omega]
        simpa using this
  obtain ⟨g1, g2⟩ := g z.1.ws j y hj
  rw [Nat.zero_add]
  exact ⟨(key _).trans (owns_at h g1), (key _).trans (owns_at h g2)⟩
theorem wr_cap {W1 : World} {base : Nat} {z : Ez} (h : WR W1 base z) : z.1.ws.length ≤ z.2.2 ∧ z.2.2 ≤ 9223372036854775807 := by
  obtain ⟨p, c, e, h1, h2, _⟩ := owns_shape2 h
  injection e with e1 e2 e3
  unfold maxLen at h2
  omega
theorem owns_far3 {w : World} {base F e size n : Nat} {v : Value} {xs : List Value} (h : w.ownsRow base e size v n xs) (hF : F < base) (a b c : Value) :
    (((w.setCell ⟨F, 0, none⟩ a).setCell ⟨F, 1, none⟩ b).setCell ⟨F, 2, none⟩ c).ownsRow base e size v n xs := by
  have one : ∀ (W : World) (j : Nat) (u : Value), W.ownsRow base e size v n xs → (W.setCell ⟨F, j, none⟩ u).ownsRow base e size v n xs := fun W j u hW => by
    refine hW.kept (row := some F) ⟨rfl, rfl, rfl, by simp [World.setCell], fun k hk hne => Below.heap_setCell _ _ _ k (fun e => hne (by rw [e]))⟩ (.inr ?_)
    intro e
    have := World.ownsRow.lt hW F e
    omega
  exact one _ 2 c (one _ 1 b (one _ 0 a h))
set_option maxRecDepth 100000 in
set_option maxHeartbeats 4000000 in
/-- master.Parse, of a file whose entries are told without a fault -/
theorem parse_any (t o : ByteArray) (E : List En) (fp : Option Addr) (fl fc : Nat) (w : World) (S : Nat → Sx) (hE : entsB t = .inr E) (ht : t.size ≤ 1073741824) (ho : isN o = true) (hG : GM w) (h0 : S 0 = ⟨o, ⟨#[]⟩, -1, []⟩)
    (hstep : ∀ (B M : Nat) W1 (V : World) (z : Ez) (i : Nat), z.2.1 ≠ B → V.heap[M]? = some tmM → E[i]? = some z.1 → WA V z.2.1 0 z.1.ws → z.1.ws.length ≤ z.2.2 ∧ z.2.2 ≤ 9223372036854775807 → Iv B M (.slice fp fl fc) S W1 i V → GM V → (∀ V ow la R, Rr W1 B (S i).o ow (-1) la (.slice fp fl fc) (.map (some M)) R V → GM V) →
      Calls Tryz.prog 30 #[.pointer (some ⟨B, 0, none⟩), enV z.1.l z.1.b z.2.1 z.1.ws.length z.2.2] V fun e w' => e = .returned .nilIface ∧ Iv B M (.slice fp fl fc) S W1 (i + 1) w') :
    Calls Tryz.prog 6 #[.string t, .string o, .slice fp fl fc] w fun e w' => ∃ p c, e = .returned (.tuple #[.slice p (S E.length).R.length c, .agg #[.int .i64 0, .string ⟨#[]⟩, .int .i64 0]]) ∧
      w'.ownsRow w.heap.size 54 5 (.slice p (S E.length).R.length c) (S E.length).R.length (rce5 (S E.length).R) ∧ Below w.heap.size w w' := by
  have hmo : o.size ≤ maxLen := by
    have := ((isN_iff o).1 ho).1
    unfold maxLen; omega
  have HC := hide' (fun V => check_any o V hmo)
  rw [show chk o = 0 by unfold chk; rw [if_pos ho]] at HC
  obtain ⟨wA, hwA⟩ : ∃ wA, w.alloc (.cells #[.int .i64 0, .string ⟨#[]⟩, .int .i64 0] 26) = wA := ⟨_, rfl⟩
  have zA : wA.heap.size = w.heap.size + 1 := by rw [← hwA]; simp
  have BA : Below w.heap.size w wA := hwA ▸ (Below.refl _ w).alloc (Nat.le_refl _) _
  have XA : Bx wA w.heap.size #[.int .i64 0, .string ⟨#[]⟩, .int .i64 0] 26 := hwA ▸ World.alloc_heap_new w _
  have HXA := hide' XA
  have HBA := hide' BA
  have HF : Hid (∀ (M : Nat) (V : World), Below wA.heap.size wA V → M < V.heap.size → wA.heap.size ≤ M → V.heap[M]? = some tmM →
      Calls Tryz.prog 14 #[.pointer (some ⟨V.heap.size, 0, none⟩), .agg #[.string ⟨#[]⟩, .string t]] (V.alloc (.cells #[.string o, .string ⟨#[]⟩, .int .i64 (-1), .int .i64 (-1), .slice fp fl fc, .map (some M), .int .i64 0, .int .i64 0, .slice none 0 0] 49)) fun e w' => e = .returned .nilIface ∧
        ∃ p c, w'.cell? ⟨V.heap.size, 8, none⟩ = some (.slice p (S E.length).R.length c) ∧ Bx w' w.heap.size #[.int .i64 0, .string ⟨#[]⟩, .int .i64 0] 26 ∧ w'.ownsRow (w.heap.size + 1) 54 5 (.slice p (S E.length).R.length c) (S E.length).R.length (rce5 (S E.length).R) ∧ Below w.heap.size w w') := fun M V hV hMV hM1 hM => by
    obtain ⟨W, hW⟩ : ∃ W, V.alloc (.cells #[.string o, .string ⟨#[]⟩, .int .i64 (-1), .int .i64 (-1), .slice fp fl fc, .map (some M), .int .i64 0, .int .i64 0, .slice none 0 0] 49) = W := ⟨_, rfl⟩
    rw [hW]
    have zW : W.heap.size = V.heap.size + 1 := by rw [← hW]; simp
    have hXW : Bx W V.heap.size #[.string o, .string ⟨#[]⟩, .int .i64 (-1), .int .i64 (-1), .slice fp fl fc, .map (some M), .int .i64 0, .int .i64 0, .slice none 0 0] 49 := hW ▸ World.alloc_heap_new V _
    have hVW : Below V.heap.size V W := hW ▸ (Below.refl _ V).alloc (Nat.le_refl _) _
    have hVs := hV.size
    have hwW : Below w.heap.size w W := bstep (bstep BA hV BA.size) hVW (by omega)
    refine (file_any V.heap.size ⟨#[]⟩ t E W hE ht (by omega) (Iv V.heap.size M (.slice fp fl fc) S) (fun W1 i V1 V2 h1 h2 => Rr.below h1 h2) (fun W1 i V1 h1 => h1.rg) (fun W1 hW1 => ?_) (fun W1 Z v hW1 hZ hZE i z V1 hz hI => ?_)).mono ?_
    · unfold Iv
      rw [h0]
      have hs := hW1.size
      exact ⟨Rg.refl _ _, by omega, none, 0, Bx.below hXW hW1 (by omega), World.ownsRow_nil _ _ _ _⟩
    · have hzm := List.mem_of_getElem? hz
      have hrow := hZ.rows z hzm
      have hlt := hrow.lt
      have hs := hW1.size
      have hgm : ∀ V2, Rg W1 V2 V.heap.size → GM V2 := fun V2 h2 => hG.below (h2.below (bstep hwW hW1 hwW.size) (by omega))
      refine hstep V.heap.size M W1 V1 z i (by omega) ?_ ?_ (wr_wa hrow (by omega) hI.rg) (wr_cap hrow) hI (hgm V1 hI.rg) (fun V2 ow la R h2 => hgm V2 h2.rg)
      · exact (hI.rg.block M (by omega) (by simp; omega)).trans ((hW1.block M (by omega)).trans ((hVW.block M hMV).trans hM))
      · rw [← hZE, List.getElem?_map, hz]; rfl
    · rintro e w' ⟨rfl, W1, hW1, hI⟩
      have hI' : Rr W1 V.heap.size _ _ _ _ (.slice fp fl fc) (.map (some M)) (S E.length).R w' := hI
      obtain ⟨p, c, h1, h2⟩ := hI'.box
      have hs := hW1.size
      have hwW1 := bstep hwW hW1 hwW.size
      refine ⟨rfl, p, c, Bx.cell h1 rfl, ?_, owns_base h2 (by omega), hI'.rg.below hwW1 (by omega)⟩
      have hb : Bx W1 w.heap.size _ _ := Bx.below (Bx.below (Bx.below XA hV (by omega)) hVW (by omega)) hW1 (by omega)
      exact (hI'.rg.block w.heap.size (by omega) (by simp; omega)).trans hb
  have HT := hide' (fun V => tellers_any V)
  clear XA BA hG hstep h0 hE ho
  go_enter Tryz.func6, Tryz.ntmps6
  go_wp2_with (first
    | (go_at_call 11; refine (HC.out _).mono ?_; rintro e1 w1 ⟨rfl, hB1⟩; have HB1 := hide' hB1; clear hB1)
    | (go_at_call 13; refine (HT.out _).mono ?_; rintro e2 w2 ⟨M, rfl, hM1, hM2, hB2⟩; have HM : Hid (wA.heap.size ≤ M ∧ w2.heap[M]? = some tmM) := ⟨Nat.le_trans HB1.out.size hM1, hM2⟩; have HB2 := hide' (bstep HB1.out hB2 HB1.out.size); clear hB2 hM1 hM2)
    | (go_at_call 14; refine (HF.out M w2 HB2.out (Array.getElem?_eq_some_iff.1 HM.out.2).1 HM.out.1 HM.out.2).mono ?_; rintro e3 w3 ⟨rfl, p, c, b8, hX3, hO3, hB3⟩; have r0 : w3.cell? ⟨w.heap.size, 0, none⟩ = some (.int .i64 0) := hX3.cell rfl; have r1 : w3.cell? ⟨w.heap.size, 1, none⟩ = some (.string ⟨#[]⟩) := hX3.cell rfl; have r2 : w3.cell? ⟨w.heap.size, 2, none⟩ = some (.int .i64 0) := hX3.cell rfl; have z0 := hX3.free 0; have z1 := hX3.free 1; have z2 := hX3.free 2; have HO3 := hide' hO3; have HB3 := hide' hB3; clear hX3 hO3 hB3))
  obtain ⟨e0, e1, e2⟩ := three_set r0 r1 r2 (.int .i64 0) (.string ⟨#[]⟩) (.int .i64 0)
  refine bodyPost_ret (v := .tuple #[.slice p (S E.length).R.length c, .agg #[.int .i64 0, .string ⟨#[]⟩, .int .i64 0]]) (by simp [results, go_sem, e0, e1, e2]) rfl ⟨p, c, rfl, ?_, ?_⟩
  · exact owns_base (owns_far3 HO3.out (Nat.lt_succ_self _) _ _ _) (Nat.le_succ _)
  · exact below_far (below_far (below_far HB3.out (Nat.le_refl _) _ _) (Nat.le_refl _) _ _) (Nat.le_refl _) _ _
set_option maxRecDepth 100000 in
set_option maxHeartbeats 2000000 in
/-- master.Parse, at an origin that is no name -/
theorem parse_bad (t o : ByteArray) (fp : Option Addr) (fl fc : Nat) (w : World) (ho : isN o = false) (hmo : o.size ≤ maxLen) (hG : GE w) :
    Calls Tryz.prog 6 #[.string t, .string o, .slice fp fl fc] w fun e w' => e = .returned (.tuple #[.slice none 0 0, .agg #[.int .i64 1, .string ⟨#[]⟩, .int .i64 0]]) ∧ Below w.heap.size w w' := by
  have HC := hide' (fun V => check_any o V hmo)
  rw [show chk o = 1 by unfold chk; rw [if_neg (by rw [ho]; simp)]] at HC
  obtain ⟨wA, hwA⟩ : ∃ wA, w.alloc (.cells #[.int .i64 0, .string ⟨#[]⟩, .int .i64 0] 26) = wA := ⟨_, rfl⟩
  have zA : wA.heap.size = w.heap.size + 1 := by rw [← hwA]; simp
  have BA : Below w.heap.size w wA := hwA ▸ (Below.refl _ w).alloc (Nat.le_refl _) _
  have XA : Bx wA w.heap.size #[.int .i64 0, .string ⟨#[]⟩, .int .i64 0] 26 := hwA ▸ World.alloc_heap_new w _
  have HXA := hide' XA
  have HBA := hide' BA
  have HFO : Hid (∀ V, Below wA.heap.size wA V → Calls Tryz.prog 12 #[.iface 42 (.int .i64 1)] V fun e w' => e = .returned (.agg #[.int .i64 1, .string ⟨#[]⟩, .int .i64 0]) ∧ Below V.heap.size V w') := fun V hV => faultOf_bare 1 V ((hG.below BA).below hV)
  clear XA BA hG ho
  go_enter Tryz.func6, Tryz.ntmps6
  go_wp2_with (first
    | (go_at_call 11; refine (HC.out _).mono ?_; rintro e1 w1 ⟨rfl, hB1⟩; have HB1 := hide' hB1; clear hB1)
    | (go_at_call 12; refine (HFO.out _ HB1.out).mono ?_; rintro e2 w2 ⟨rfl, hB2⟩; have hB3 := bstep HB1.out hB2 HB1.out.size; have hX3 := Bx.below HXA.out hB3 (by omega); have r0 : w2.cell? ⟨w.heap.size, 0, none⟩ = some (.int .i64 0) := hX3.cell rfl; have r1 : w2.cell? ⟨w.heap.size, 1, none⟩ = some (.string ⟨#[]⟩) := hX3.cell rfl; have r2 : w2.cell? ⟨w.heap.size, 2, none⟩ = some (.int .i64 0) := hX3.cell rfl; have z0 := hX3.free 0; have z1 := hX3.free 1; have z2 := hX3.free 2; have HB3 := hide' (bstep HBA.out hB3 HBA.out.size); clear hX3 hB3 hB2))
  obtain ⟨e0, e1, e2⟩ := three_set r0 r1 r2 (.int .i64 1) (.string ⟨#[]⟩) (.int .i64 0)
  refine bodyPost_ret (v := .tuple #[.slice none 0 0, .agg #[.int .i64 1, .string ⟨#[]⟩, .int .i64 0]]) (by simp [results, go_sem, e0, e1, e2]) rfl ⟨rfl, ?_⟩
  exact below_far (below_far (below_far HB3.out (Nat.le_refl _) _ _) (Nat.le_refl _) _ _) (Nat.le_refl _) _ _
end Go.Proofs.YtiaccimdjfdkgaaGreatDoor

/-
  Proofs: master.Parse of what is printed, of the law's small file, of an empty text. (The verifier's own text.)
-/
namespace Go.Proofs.YtiaccimdjfdkgaaGreatDoor
set_option linter.unusedVariables false
set_option linter.unusedSimpArgs false
open Go.RowKit Go.Shelf Go.Proofs.YtiaccimdjfdkgaaGreatDoor.Nm

theorem lines_get : ∀ (X : List Li) (l i : Nat), (linesE l X)[i]? = X[i]?.map fun x => ⟨l + i, x.h.isNone, liW x⟩
  | [], l, i => by simp [linesE]
  | x :: X, l, 0 => by simp [linesE]
  | x :: X, l, i + 1 => by
    have := lines_get X (l + 1) i
    simp only [linesE, List.getElem?_cons_succ]
    rw [this, show l + 1 + i = l + (i + 1) by omega]
theorem lines_len : ∀ (X : List Li) (l : Nat), (linesE l X).length = X.length
  | [], l => rfl
  | x :: X, l => by simp [linesE, lines_len X]
theorem prL_get (o : ByteArray) : ∀ (R : List Rn) (last : ByteArray) (i : Nat), (prL o last R)[i]? = R[i]?.map fun x => lineR o (lastO last (R.take i)) x
  | [], last, i => by simp [prL]
  | x :: R, last, 0 => rfl
  | x :: R, last, i + 1 => by
    have := prL_get o R x.o i
    simp only [prL, List.getElem?_cons_succ, List.take_succ_cons]
    exact this
theorem prL_len (o : ByteArray) : ∀ (R : List Rn) (last : ByteArray), (prL o last R).length = R.length
  | [], last => rfl
  | x :: R, last => by simp [prL, prL_len o R]
def lastA (R : List Rn) : Int := (R.getLast?.map (·.l)).getD (-1)
/-- what a reader holds behind each line of a printed file -/
def Sp (other o : ByteArray) (R : List Rn) : Nat → Sx
  | 0 => ⟨other, ⟨#[]⟩, -1, []⟩
  | i + 1 => ⟨o, lastO ⟨#[]⟩ (R.take i), lastA (R.take i), R.take i⟩
theorem hd_print {x : Rn} (h : RcOk x) : Hd x (bts (dgN x.l.toNat)) (bts [73, 78]) := by
  have h1 := h.l1
  have h0 := h.l0
  refine ⟨?_, by decide +kernel, by decide +kernel, ?_, by decide +kernel⟩
  · unfold secB
    rw [numR_dec (by decide) (by omega) (dgN_len 9 _ (by omega))]
  · rw [bts_size]
    have := dgN_len 9 x.l.toNat (by omega)
    omega
theorem words_row (x : Rn) : (rowT x).map (fun p => wdB p.2) = rwW x (bts (dgN x.l.toNat)) (bts [73, 78]) := by
  unfold rowT rwW
  rw [List.map_cons, List.map_cons, List.map_cons, tabd_words]
  simp [wdB, bts_ls]
theorem lastA_snoc (R : List Rn) (x : Rn) : lastA (R ++ [x]) = x.l := by
  unfold lastA
  rw [List.getLast?_concat]
  rfl
theorem take_snoc {R : List Rn} {i : Nat} {x : Rn} (h : R[i]? = some x) : R.take (i + 1) = R.take i ++ [x] := by
  rw [List.take_add_one, h]
  rfl
/-- an entry of a printed file -/
theorem printE_step (o other : ByteArray) (R : List Rn) (ho : isN o = true) (hot : isN other = true) (hR : ∀ x ∈ R, RcOk x) (hn : R.length ≤ 2000) (fs : Value) (B M : Nat) (W1 V : World) (z : Ez) (i : Nat) (hzB : z.2.1 ≠ B) (hM : V.heap[M]? = some tmM)
    (hE : (linesE 1 (prF o R))[i]? = some z.1) (hW : WA V z.2.1 0 z.1.ws) (hc : z.1.ws.length ≤ z.2.2 ∧ z.2.2 ≤ 9223372036854775807) (hI : Iv B M fs (Sp other o R) W1 i V) (hG : GM V) (hGa : ∀ V ow la R', Rr W1 B (Sp other o R i).o ow (-1) la fs (.map (some M)) R' V → GM V) :
    Calls Tryz.prog 30 #[.pointer (some ⟨B, 0, none⟩), enV z.1.l z.1.b z.2.1 z.1.ws.length z.2.2] V fun e w' => e = .returned .nilIface ∧ Iv B M fs (Sp other o R) W1 (i + 1) w' := by
  rw [lines_get] at hE
  have hot2 : other.size ≤ maxLen := by
    have := ((isN_iff other).1 hot).1
    unfold maxLen; omega
  cases i with
  | zero =>
    have e : z.1 = ⟨1, false, liW (headLi o)⟩ := by
      have : (prF o R)[0]? = some (headLi o) := rfl
      rw [this] at hE
      injection hE with hE
      exact hE.symm
    have ew : liW (headLi o) = [⟨bts [36, 79, 82, 73, 71, 73, 78], false⟩, ⟨showB o, false⟩] := by
      unfold liW headLi
      simp [wdB, bts_ls]
    rw [e, ew] at hW hc ⊢
    have hI' : Rr W1 B other ⟨#[]⟩ (-1) (-1) fs (.map (some M)) [] V := hI
    have hsz : (showB o).size ≤ 1048576 := by
      have h1 := (dom_ok ho).2.1
      have h2 := ((isN_iff o).1 ho).1
      rw [cst_plain, lsB_len] at h1
      omega
    exact entry_origin W1 B z.2.1 2 z.2.2 1 M other ⟨#[]⟩ (bts [36, 79, 82, 73, 71, 73, 78]) (showB o) o (-1) (-1) fs [] V hI' hM hW rfl hc (read_show ho hot) hsz (by decide +kernel) (by decide +kernel) (by decide +kernel) hot2 hG
  | succ i =>
    have hx0 : (prF o R)[i + 1]? = R[i]?.map fun x => lineR o (lastO ⟨#[]⟩ (R.take i)) x := prL_get o R ⟨#[]⟩ i
    rw [hx0] at hE
    cases hx : R[i]? with
    | none => rw [hx] at hE; cases hE
    | some x =>
      rw [hx] at hE
      have hE' : (⟨1 + (i + 1), (lineR o (lastO ⟨#[]⟩ (R.take i)) x).h.isNone, liW (lineR o (lastO ⟨#[]⟩ (R.take i)) x)⟩ : En) = z.1 := Option.some.inj hE
      have hxR : RcOk x := hR x (List.mem_of_getElem? hx)
      have hil : i < R.length := (List.getElem?_eq_some_iff.1 hx).1
      have hI' : Rr W1 B o (lastO ⟨#[]⟩ (R.take i)) (-1) (lastA (R.take i)) fs (.map (some M)) (R.take i) V := hI
      have hlen : (R.take i).length < 2000 := by rw [List.length_take]; omega
      have goal : ∀ w', Rr W1 B o x.o (-1) x.l fs (.map (some M)) (R.take i ++ [x]) w' → Iv B M fs (Sp other o R) W1 (i + 1 + 1) w' := fun w' h => by
        unfold Iv Sp
        simp only
        rw [take_snoc hx, lastO_snoc, lastA_snoc]
        exact h
      by_cases hso : x.o = lastO ⟨#[]⟩ (R.take i)
      · have el : lineR o (lastO ⟨#[]⟩ (R.take i)) x = ⟨none, rowT x⟩ := by unfold lineR; rw [if_pos hso]
        have ew : liW ⟨none, rowT x⟩ = rwW x (bts (dgN x.l.toNat)) (bts [73, 78]) := by
          rw [← words_row]; rfl
        rw [el, ew] at hE'
        rw [← hE'] at hW hc ⊢
        rw [← hso] at hI'
        exact (entry_blank W1 B z.2.1 _ z.2.2 _ o (-1) _ fs (.map (some M)) (R.take i) x _ _ V hI' hxR ho hW (by simp [rwW]) hc (hd_print hxR) hG hlen).mono fun e w' ⟨h1, h2⟩ => ⟨h1, goal w' h2⟩
      · have el : lineR o (lastO ⟨#[]⟩ (R.take i)) x = ⟨some ⟨ownL x.o o, false⟩, rowT x⟩ := by unfold lineR; rw [if_neg hso]
        have ew : liW ⟨some ⟨ownL x.o o, false⟩, rowT x⟩ = ⟨bts (ownL x.o o), false⟩ :: rwW x (bts (dgN x.l.toNat)) (bts [73, 78]) := by
          rw [← words_row]; rfl
        rw [el, ew] at hE'
        rw [← hE'] at hW hc ⊢
        obtain ⟨ok1, ok2⟩ := own_okF hxR.o ho
        exact (entry_owned W1 B z.2.1 _ z.2.2 _ o (lastO ⟨#[]⟩ (R.take i)) (bts (ownL x.o o)) (-1) _ fs (.map (some M)) (R.take i) x _ _ V hI' hxR ho hzB hW (by simp [rwW]) hc (read_own hxR.o ho) (by rw [bts_size]; have := ownL_len hxR.o ho; omega) (pfx_no ok1.lt ok2) (hd_print hxR) (fun V' h => hGa V' _ _ _ h) hG hlen).mono fun e w' ⟨h1, h2⟩ => ⟨h1, goal w' h2⟩
/-- master.Parse of what is printed -/
theorem parse_print (o other : ByteArray) (R : List Rn) (fp : Option Addr) (fl fc : Nat) (w : World) (ho : isN o = true) (hot : isN other = true) (hR : ∀ x ∈ R, RcOk x) (hn : R.length ≤ 2000) (hsz : (prT o R).length ≤ 1073741824) (hG : GM w) :
    Calls Tryz.prog 6 #[.string (bts (prT o R)), .string other, .slice fp fl fc] w fun e w' => ∃ p c, e = .returned (.tuple #[.slice p R.length c, .agg #[.int .i64 0, .string ⟨#[]⟩, .int .i64 0]]) ∧
      w'.ownsRow w.heap.size 54 5 (.slice p R.length c) R.length (rce5 R) ∧ Below w.heap.size w w' := by
  have hl : (linesE 1 (prF o R)).length = R.length + 1 := by
    rw [lines_len]
    show (prL o ⟨#[]⟩ R).length + 1 = _
    rw [prL_len]
  have hS : (Sp other o R (linesE 1 (prF o R)).length).R = R := by
    rw [hl]
    show R.take R.length = R
    exact List.take_length
  have := parse_any (bts (prT o R)) other (linesE 1 (prF o R)) fp fl fc w (Sp other o R) (entsB_print ho hR) (by rw [bts_size]; exact hsz) hot hG rfl (fun B M W1 V z i h1 h2 h3 h4 h5 h6 h7 h8 => printE_step o other R ho hot hR hn (.slice fp fl fc) B M W1 V z i h1 h2 h3 h4 h5 h6 h7 h8)
  rw [hS] at this
  exact this
/-- master.Parse of an empty text -/
theorem parse_none (other : ByteArray) (fp : Option Addr) (fl fc : Nat) (w : World) (hot : isN other = true) (hG : GM w) :
    Calls Tryz.prog 6 #[.string ⟨#[]⟩, .string other, .slice fp fl fc] w fun e w' => ∃ p c, e = .returned (.tuple #[.slice p 0 c, .agg #[.int .i64 0, .string ⟨#[]⟩, .int .i64 0]]) ∧ Below w.heap.size w w' := by
  refine (parse_any ⟨#[]⟩ other [] fp fl fc w (fun _ => ⟨other, ⟨#[]⟩, -1, []⟩) entsB_none (by decide) hot hG rfl (fun B M W1 V z i h1 h2 h3 h4 h5 h6 h7 h8 => by cases h3)).mono ?_
  rintro e w' ⟨p, c, h1, h2, h3⟩
  exact ⟨p, c, h1, h3⟩
def smX : Rn := ⟨⟨#[2, 101, 120, 0]⟩, 1, 1, 3600, ⟨#[10, 0, 0, 1]⟩⟩
def smT : ByteArray := ⟨#[64, 32, 49, 104, 32, 73, 78, 32, 65, 32, 49, 48, 46, 48, 46, 48, 46, 49, 10]⟩
theorem smX_ok : RcOk smX := ⟨by decide +kernel, rfl, by decide, by decide, by decide, by decide, ⟨[(0, ⟨#[10, 0, 0, 1]⟩)], by decide +kernel⟩⟩
theorem smE : entsB smT = .inr (linesE 1 smallX) := by
  rw [← entsB_lines small_ok]
  rfl
theorem smName : nameT smX.t = bts [65] := by decide +kernel
theorem smTell : tellD smX = [⟨[49, 48, 46, 48, 46, 48, 46, 49], false⟩] := by kernel_rfl
theorem smW : linesE 1 smallX = [⟨1, false, ⟨bts [64], false⟩ :: rwW smX (bts [49, 104]) (bts [73, 78])⟩] := by
  unfold rwW
  rw [smName, smTell]
  rfl
theorem smHd : Hd smX (bts [49, 104]) (bts [73, 78]) := ⟨by decide +kernel, by decide +kernel, by decide +kernel, by decide +kernel, by decide +kernel⟩
def Ss : Nat → Sx
  | 0 => ⟨⟨#[2, 101, 120, 0]⟩, ⟨#[]⟩, -1, []⟩
  | _ + 1 => ⟨⟨#[2, 101, 120, 0]⟩, smX.o, smX.l, [smX]⟩
/-- master.Parse of the law's small file -/
theorem parse_small (fp : Option Addr) (fl fc : Nat) (w : World) (hG : GM w) :
    Calls Tryz.prog 6 #[.string smT, .string ⟨#[2, 101, 120, 0]⟩, .slice fp fl fc] w fun e w' => ∃ p c, e = .returned (.tuple #[.slice p 1 c, .agg #[.int .i64 0, .string ⟨#[]⟩, .int .i64 0]]) ∧
      w'.ownsRow w.heap.size 54 5 (.slice p 1 c) 1 (rce5 [smX]) ∧ Below w.heap.size w w' := by
  have hex : isN ⟨#[2, 101, 120, 0]⟩ = true := smX_ok.o
  have hE : entsB smT = .inr [⟨1, false, ⟨bts [64], false⟩ :: rwW smX (bts [49, 104]) (bts [73, 78])⟩] := by rw [← smW]; exact smE
  refine parse_any smT ⟨#[2, 101, 120, 0]⟩ _ fp fl fc w Ss hE (by decide) hex hG rfl (fun B M W1 V z i h1 h2 h3 h4 h5 h6 h7 h8 => ?_)
  cases i with
  | succ i => cases h3
  | zero =>
    have e : z.1 = ⟨1, false, ⟨bts [64], false⟩ :: rwW smX (bts [49, 104]) (bts [73, 78])⟩ := (Option.some.inj h3).symm
    rw [e] at h4 h5 ⊢
    have hI' : Rr W1 B ⟨#[2, 101, 120, 0]⟩ ⟨#[]⟩ (-1) (-1) (.slice fp fl fc) (.map (some M)) [] V := h6
    exact (entry_owned W1 B z.2.1 _ z.2.2 1 ⟨#[2, 101, 120, 0]⟩ ⟨#[]⟩ (bts [64]) (-1) (-1) (.slice fp fl fc) (.map (some M)) [] smX _ _ V hI' smX_ok hex h1 h4 (by simp [rwW]) h5 (readB_at hex rfl) (by decide +kernel) (by decide +kernel) smHd (fun V' h => h8 V' _ _ _ h) h7 (by decide)).mono fun e w' ⟨h1, h2⟩ => ⟨h1, h2⟩
end Go.Proofs.YtiaccimdjfdkgaaGreatDoor
