import Derived.Test.YtoabnpdoicbpiaaGreatRc1G
import Derived.Shelf.Strings.BuilderK
import Derived.Shelf.Lay
import Derived.Ground.NamesProg
namespace Go.Proofs.YtoabnpdoicbpiaaGreat
set_option linter.unusedVariables false
open Go.RowKit Go.Shelf Go.Proofs.YtoabnpdoicbpiaaGreat.Nm
def Tryz.lays169_ren : Go.Shelf.Ren := ⟨fun | 169 => 102 | n => n, fun | 70 => 152 | 9 => 9 | 0 => 0 | 72 => 154 | 37 => 146 | 127 => 180 | 3 => 3 | 5 => 5 | n => n, fun | n => n⟩
theorem Tryz.lays169 : Go.Proofs.Lays.n169 Tryz.prog Tryz.lays169_ren := {
       mixed := by kernel_rfl
       f169 := Tryz.func102.trans (congrArg some (by kernel_rfl))
       t0 := Tryz.underlying0
       a0 := Tryz.isAgg0
       z0 := Tryz.sizeOf0
       v0 := Tryz.zeroValue0
       t3 := Tryz.underlying3
       a3 := Tryz.isAgg3
       z3 := Tryz.sizeOf3
       v3 := Tryz.zeroValue3
       t9 := Tryz.underlying9
       a9 := Tryz.isAgg9
       z9 := Tryz.sizeOf9
       v9 := Tryz.zeroValue9
       t37 := Tryz.underlying146
       a37 := Tryz.isAgg146
       z37 := Tryz.sizeOf146
       v37 := Tryz.zeroValue146
       t70 := Tryz.underlying152
       a70 := Tryz.isAgg152
       z70 := Tryz.sizeOf152
       v70 := Tryz.zeroValue152
       t72 := Tryz.underlying154
       a72 := Tryz.isAgg154
       z72 := Tryz.sizeOf154
       v72 := Tryz.zeroValue154
       t127 := Tryz.underlying180
       a127 := Tryz.isAgg180
       z127 := Tryz.sizeOf180
       v127 := Tryz.zeroValue180 }
set_option maxRecDepth 100000 in
theorem Tryz.extra169 : Builder.Extra Tryz.prog Tryz.lays169_ren where
 sizeBuilder := by kernel_rfl
 liesBuilder := by kernel_rfl
 t5 := Tryz.underlying5
 a5 := Tryz.isAgg5
 z5 := Tryz.sizeOf5
 v5 := Tryz.zeroValue5
 infoByte := by kernel_rfl
 cellsByte := by kernel_rfl
 sizeByte := by kernel_rfl
 neB5 := by decide
theorem builderString_any (B b : Nat) (l : List UInt8) (w : World) (h : Lib.IsBuilderF 154 5 B b (Lib.byteCells l) w) (hBw : B ≤ w.heap.size) :
  Calls Tryz.prog 102 #[.pointer (some ⟨b, 0, none⟩)] w fun e w' => e = .returned (.string ⟨l.toArray⟩) ∧ (Lib.IsBuilderF 154 5 B b (Lib.byteCells l) w' ∧ Below B w w' ∧ Lib.OthersKept 5 (some b) w w') :=
 Any.Builder_String_any_k Tryz.lays169 Tryz.extra169 B b l w h hBw
set_option maxRecDepth 100000 in
set_option maxHeartbeats 1000000 in
theorem copyCheck_used (b : Nat) (w : World) (h0 : w.cell? ⟨b, 0, none⟩ = some (.pointer (some ⟨b, 0, none⟩))) :
  Calls Tryz.prog 121 #[.pointer (some ⟨b, 0, none⟩)] w fun e w' => e = .returned (.tuple #[]) ∧ w' = w := by
 obtain ⟨j, hj, _⟩ := Option.map_eq_some_iff.1 Tryz.extra169.sizeBuilder
 go_enter Tryz.func121, Tryz.ntmps121
 go_wp2
 rw [Lib.run_neq_ptr_same w _ Tryz.underlying152 hj]
 go_wp2
 go_end0
 exact ⟨rfl, rfl⟩
set_option maxRecDepth 100000 in
set_option maxHeartbeats 1000000 in
theorem copyCheck_fresh (b : Nat) (w : World) (h0 : w.cell? ⟨b, 0, none⟩ = some (.pointer none)) (hsh : w.shape? b = some (154, 2)) (hfz : w.frozen? ⟨b, 0, none⟩ = false) :
  Calls Tryz.prog 121 #[.pointer (some ⟨b, 0, none⟩)] w fun e w' => e = .returned (.tuple #[]) ∧ w' = w.setCell ⟨b, 0, none⟩ (.pointer (some ⟨b, 0, none⟩)) := by
 obtain ⟨j, hj, hjs⟩ := Option.map_eq_some_iff.1 Tryz.extra169.sizeBuilder
 go_enter Tryz.func121, Tryz.ntmps121
 go_wp2
 rw [Lib.run_to_unsafe w ⟨b, 0, none⟩ Tryz.underlying152 Tryz.underlying205 hj (by rw [hjs]; decide) hsh (Nat.zero_lt_succ 1)]
 simp only [Result.andThen]
 rw [Oper.upon_value]
 go_wp2
 rw [run_callFunc_extern Tryz.func138 (by kernel_rfl) (by kernel_rfl) (by kernel_rfl) (e := Extern.AbiNoEscape.same) (by kernel_rfl)]
 rw [Lib.run_noEscape]
 simp only [Result.andThen]
 rw [Oper.upon_value]
 go_wp2
 rw [Lib.run_from_unsafe w ⟨b, 0, none⟩ Tryz.underlying205 Tryz.underlying152 hj hsh Tryz.extra169.liesBuilder]
 simp only [Result.andThen]
 rw [Oper.upon_value]
 go_wp2
 go_end0
 exact ⟨rfl, rfl⟩
theorem copyCheck_any (B b : Nat) (bs : List Value) (w : World) (h : Lib.IsBuilderF 154 5 B b bs w) :
  Calls Tryz.prog 121 #[.pointer (some ⟨b, 0, none⟩)] w fun e w' => e = .returned (.tuple #[]) ∧ (Lib.BuilderAtF 154 5 B b (.pointer (some ⟨b, 0, none⟩)) bs w' ∧ Below B w w' ∧ Lib.OthersKept 5 (some b) w w') := by
 rcases h with h | h
 ·refine (copyCheck_fresh b w h.cell0 h.shape h.frozen0).mono ?_
  rintro e w' ⟨rfl, rfl⟩
  exact ⟨rfl, h.used _, (Below.refl B w).setCell (p := ⟨b, 0, none⟩) h.1 _, (Lib.OthersKept.refl _ _ w).setCell ⟨b, 0, none⟩ rfl _⟩
 ·refine (copyCheck_used b w h.cell0).mono ?_
  rintro e w' ⟨rfl, rfl⟩
  exact ⟨rfl, h, Below.refl B _, Lib.OthersKept.refl _ _ _⟩
set_option maxRecDepth 100000 in
set_option maxHeartbeats 1000000 in
theorem writeString_any (B b : Nat) (bs : List Value) (s : ByteArray) (w : World) (h : Lib.IsBuilderF 154 5 B b bs w) (hlen : bs.length + s.size ≤ 140737488355328) (hBw : B ≤ w.heap.size) :
    Calls Tryz.prog 101 #[.pointer (some ⟨b, 0, none⟩), .string s] w fun e w' => e = .returned (.tuple #[.int .i64 s.size, .nilIface]) ∧ (Lib.BuilderAtF 154 5 B b (.pointer (some ⟨b, 0, none⟩)) (bs ++ Lib.strCells s) w' ∧ Below B w w' ∧ Lib.OthersKept 5 (some b) w w') := by
  obtain ⟨i0, hi, hz0, hz1, hz2⟩ := info_parts Tryz.infoByte
  go_enter Tryz.func101, Tryz.ntmps101
  go_wp2_with (first
    | (go_at_call 121; refine (copyCheck_any B b bs _ h).mono ?_; rintro e w1 ⟨rfl, ⟨hB, v, hbk, hown, hne⟩, hb1, hk1⟩; have c0 : w1.cell? ⟨b, 0, none⟩ = some (.pointer (some ⟨b, 0, none⟩)) := (by rw [Lib.cell_of_heap hbk]; rfl); have c1 : w1.cell? ⟨b, 1, none⟩ = some v := (by rw [Lib.cell_of_heap hbk]; rfl))
    | (at_builtin; refine Lib.wpList_append_own_stringF _ rfl _ _ 146 9 rfl B 5 i0 Tryz.underlying146 Tryz.underlying9 hi hz0 hz1 hz2 _ _ _ rfl hown s rfl (by unfold maxLen; omega) (by omega) (by have := hb1.size; omega) ?_; intro v' w2 hown' hgrow _
       have hlt : b < w1.heap.size := (Array.getElem?_eq_some_iff.1 hbk).1
       have hb2 : w2.heap[b]? = some (.cells #[.pointer (some ⟨b, 0, none⟩), v] 154 (0, 0)) := (hgrow.block b hlt (fun e => hne e.symm)).trans hbk
       have d0 : w2.cell? ⟨b, 0, none⟩ = some (.pointer (some ⟨b, 0, none⟩)) := (by rw [Lib.cell_of_heap hb2]; rfl)
       have d1 : w2.cell? ⟨b, 1, none⟩ = some v := (by rw [Lib.cell_of_heap hb2]; rfl)
       have f1 : w2.frozen? ⟨b, 1, none⟩ = false := Lib.frozen_of_heap hb2 1
       obtain ⟨ao, n', cap, rfl⟩ : ∃ ao n' cap, v' = .slice ao n' cap := (by
         rcases hown'.2 with ⟨hv, _⟩ | ⟨g, cap, cur, fz, hv, _⟩
         · exact ⟨_, _, _, hv⟩
         · exact ⟨_, _, _, hv⟩)))
  go_ret2
  refine ⟨rfl, ?_, ?_, (hk1.grown hgrow (Lib.ownsRowF_kind hown)).setCell ⟨b, 1, none⟩ rfl _⟩
  · exact Lib.BuilderAtF.put (T := 154) (e := 5) hB hb2 (bs' := bs ++ Lib.strCells s) (by simpa [Lib.strCells_length] using hown') (by decide)
  · exact (hb1.grown hgrow (by have := hb1.size; omega) (fun k hk => (hown.lt k hk).1)).setCell (p := ⟨b, 1, none⟩) hB _
end Go.Proofs.YtoabnpdoicbpiaaGreat
namespace Go.Proofs.YtoabnpdoicbpiaaGreat
set_option linter.unusedVariables false
open Go.RowKit Go.Shelf Go.Proofs.YtoabnpdoicbpiaaGreat.Nm
theorem builder_below {T e B b : Nat} {bs : List Value} {w w' : World} (h : Lib.IsBuilderF T e B b bs w) (hb : Below w.heap.size w w') : Lib.IsBuilderF T e B b bs w' := by
 have key : ∀ p, Lib.BuilderAtF T e B b p bs w → Lib.BuilderAtF T e B b p bs w' := fun p hp => by
  obtain ⟨hB, v, hg, ⟨hl, ho⟩, hne⟩ := hp
  refine ⟨hB, v, (hb.block b (Array.getElem?_eq_some_iff.1 hg).1).trans hg, ⟨hl, ?_⟩, hne⟩
  rcases ho with ho | ⟨g, cap, cur, fz, h1, h2, h3, h4⟩
  ·exact .inl ho
  ·exact .inr ⟨g, cap, cur, fz, h1, h2, (hb.block g (Array.getElem?_eq_some_iff.1 h3).1).trans h3, h4⟩
 rcases h with h | h
 ·exact .inl (key _ h)
 ·exact .inr (key _ h)
def foldP (q : Kind × ByteArray) : ByteArray := if q.1 = .dom then foldB q.2 else q.2
def foldL (ps : List (Kind × ByteArray)) : List UInt8 := ps.flatMap fun q => (foldP q).data.toList
def foldD (t : Int) (d : ByteArray) : ByteArray := match partsD t d with | none => ⟨#[]⟩ | some ps => ⟨(foldL ps).toArray⟩
theorem foldP_size (q : Kind × ByteArray) : (foldP q).size ≤ q.2.size := by
 unfold foldP foldB
 split
 ·split
  ·rw [lowB_size]; exact Nat.le_refl _
  ·simp
 ·exact Nat.le_refl _
theorem parts_small : ∀ (ks : List Kind) (d : ByteArray) (ps : List (Kind × ByteArray)), partsOf ks d = some ps → ∀ q ∈ ps, q.2.size ≤ d.size
 | [], d, ps, h, q, hq => by unfold partsOf at h; split at h <;> simp at h; subst h; cases hq
 | k :: ks, d, ps, h, q, hq => by
  unfold partsOf at h
  cases hs : kindSize k d with
  | none => rw [hs] at h; cases h
  | some n =>
   rw [hs] at h
   simp only [Option.map_eq_some_iff] at h
   obtain ⟨r, hr, rfl⟩ := h
   have hn := kindSize_le hs
   rcases List.mem_cons.1 hq with rfl | h2
   ·show (d.extract 0 n).size ≤ _; rw [size_extract' _ _ _ hn]; omega
   ·have := parts_small ks _ r hr q h2
    rw [size_extract' _ _ _ (Nat.le_refl _)] at this; omega
theorem partsD_small {t : Int} {d : ByteArray} {ps : List (Kind × ByteArray)} (h : partsD t d = some ps) : ∀ q ∈ ps, q.2.size ≤ 65535 := fun q hq => by
 have hd := (parts_few h).2
 unfold partsD at h
 cases hk : kindsOf t with
 | none => rw [hk] at h; cases h
 | some ks =>
  rw [hk] at h
  change (if _ then _ else _) = _ at h
  split at h
  ·cases h
  ·exact Nat.le_trans (parts_small ks d ps h q hq) hd
theorem foldL_snoc (ps : List (Kind × ByteArray)) (q : Kind × ByteArray) : foldL (ps ++ [q]) = foldL ps ++ (foldP q).data.toList := by simp [foldL]
theorem errD_of_parts {t : Int} {d : ByteArray} {ps : List (Kind × ByteArray)} (hp : partsD t d = some ps) : errD t d = 0 := by
 unfold errD
 cases hk : kindsOf t with
 | none => unfold partsD at hp; rw [hk] at hp; cases hp
 | some ks => rw [hp]
theorem errD_of_none {t : Int} {d : ByteArray} (hp : partsD t d = none) : errD t d = 6 ∨ errD t d = 7 := by
 unfold errD
 cases hk : kindsOf t with
 | none => exact .inl rfl
 | some ks => rw [hp]; exact .inr rfl
set_option maxRecDepth 100000 in
set_option maxHeartbeats 1000000 in
theorem dataFold_any (t : Int) (d : ByteArray) (w : World) (hd : d.size ≤ 9223372036854775807) :
  Calls Tryz.prog 69 #[.int .i64 t, .string d] w fun e w' => e = .returned (.string (foldD t d)) ∧ Below w.heap.size w w' := by
 have HC := hide' (fun w => dataCheck_any t d w hd)
 have HT := hide' (fun w => split_any2 t d w hd)
 cases hp : partsD t d with
 | none =>
  have HN : Hid (foldD t d = ⟨#[]⟩) := by unfold Hid foldD; rw [hp]
  have he := errD_of_none hp
  clear hp
  rcases he with he | he
  all_goals
   rw [he] at HC
   clear he
   go_enter Tryz.func69, Tryz.ntmps69
   go_wp2_with (go_at_call 66; refine (HC.out _).mono ?_; rintro e w1 ⟨rfl, hB1⟩)
   go_ret
   exact ⟨by rw [HN.out]; rfl, hB1⟩
 | some ps =>
  obtain ⟨hps, hds⟩ := parts_few hp
  have HS := hide' (partsD_small hp)
  have HN : Hid (foldD t d = ⟨(foldL ps).toArray⟩) := by unfold Hid foldD; rw [hp]
  rw [errD_of_parts hp] at HC
  unfold spl2 at HT
  rw [hp] at HT
  clear hp
  go_enter Tryz.func69, Tryz.ntmps69
  go_wp2_with (first
   | (go_at_call 66; refine (HC.out _).mono ?_; rintro e w1 ⟨rfl, hB1⟩)
   | (go_at_call 99; refine (HT.out _).mono ?_; rintro e w2 ⟨⟨p, c, rfl, hown⟩, hB2⟩))
  have hBw1 : Below w.heap.size w w1 := hB1
  have hb0 : Lib.IsBuilderF 154 5 w1.heap.size w1.heap.size (Lib.byteCells []) w2 :=
   builder_below (w := w1.alloc (.cells #[.pointer none, .slice none 0 0] 154)) (.inl ⟨Nat.le_refl _, .slice none 0 0, World.alloc_heap_new _ _, World.ownsRowF_nil _ _ _ _, by simp [Value.ownBlock]⟩) hB2
  have hB12 : Below w1.heap.size w1 w2 := bstep ((Below.refl _ w1).alloc (Nat.le_refl _) _) hB2 (by simp)
  have hgp : ∀ g, p = some ⟨g, 0, none⟩ → 0 < ps.length → w1.heap.size < g ∧ ∃ cur, w2.heap[g]? = some (.cells cur 158 (0, 0)) := fun g hg hl => by
   obtain ⟨_, (⟨h1, h2⟩ | ⟨g', cap, cur, h1, hb, hg', hn, hcap, _⟩)⟩ := hown
   ·omega
   ·rw [hg] at h1; injection h1 with h1; injection h1 with h1; injection h1 with h1; subst h1
    rw [World.size_alloc] at hb
    exact ⟨by omega, cur, hg'⟩
  have HGP := hide' hgp
  have hnil : p = none → ps.length = 0 := fun h => by
   obtain ⟨_, (⟨h1, h2⟩ | ⟨g', cap, cur, h1, hb, hg', hn, hcap, _⟩)⟩ := hown
   ·exact h2
   ·rw [h] at h1; injection h1 with h1; cases h1
  have HNIL := hide' hnil
  clear hgp hnil
  go_loopw [16] (fun iv wr => ∃ i : Nat, iv = .int .i64 i ∧ i ≤ ps.length ∧ Lib.IsBuilderF 154 5 w1.heap.size w1.heap.size (Lib.byteCells (foldL (ps.take i))) wr ∧ (foldL (ps.take i)).length ≤ i * 65535 ∧ Hid (∀ g, p = some ⟨g, 0, none⟩ → wr.heap[g]? = w2.heap[g]?) ∧ Below w1.heap.size w1 wr) (fun iv _ => ps.length - (intOf iv).toNat)
  case atStart => exact ⟨0, rfl, Nat.zero_le _, by simpa [foldL] using hb0, by simp [foldL], fun g _ => rfl, hB12⟩
  case round =>
   obtain ⟨i, rfl, hi2, hbu, hfl, HG, hBr⟩ := hrel
   by_cases hlt : i < ps.length
   ·obtain ⟨g, rfl⟩ : ∃ g, p = some ⟨g, 0, none⟩ := by
     obtain ⟨_, (⟨h1, h2⟩ | ⟨g', cap, cur, h1, hb, hg', hn, hcap, _⟩)⟩ := hown
     ·omega
     ·injection h1 with h1; exact ⟨g', h1⟩
    obtain ⟨hgb, cur, hgc⟩ := HGP.out g rfl (by omega)
    have hgr := HG.out g rfl
    have hgr2 := hgr.trans hgc
    have hgl : g < wr.heap.size := (Array.getElem?_eq_some_iff.1 hgr2).1
    obtain ⟨hf1, hf2⟩ := flat_get ps i hlt
    have hc0 : wr.cell? ⟨g, i * 2, none⟩ = some (kindV ps[i].1) := by
     rw [World.cell?_of_block hgr, hown.cellAt (i * 2) (by omega)]; exact hf1
    have hc1 : wr.cell? ⟨g, i * 2 + 1, none⟩ = some (.string ps[i].2) := by
     rw [World.cell?_of_block hgr, hown.cellAt (i * 2 + 1) (by omega)]; exact hf2
    have HTK : Hid (foldL (ps.take (i + 1)) = foldL (ps.take i) ++ (foldP ps[i]).data.toList) := by
     unfold Hid; rw [List.take_succ_eq_append_getElem hlt, foldL_snoc]
    have hqs := HS.out ps[i] (List.getElem_mem hlt)
    have hqf := foldP_size ps[i]
    generalize ps[i] = q at *
    obtain ⟨k, b⟩ := q
    simp only at hc0 hc1 HTK hqs hqf
    have HIN := hide' (fun w => partIsName_any k b w)
    rw [kindV_eq] at hc0 HIN
    obtain ⟨L, hL⟩ : ∃ L, foldL (ps.take i) = L := ⟨_, rfl⟩
    rw [hL] at hbu hfl HTK
    clear hL hf1 hf2 HG hgr
    obtain ⟨F, hF⟩ : ∃ F, foldP (k, b) = F := ⟨_, rfl⟩
    rw [hF] at HTK hqf
    have hLL : (Lib.byteCells L).length = L.length := Lib.byteCells_length L
    have HCL : Hid ((Lib.byteCells L).length + F.size ≤ 140737488355328) := by unfold Hid; omega
    have HLN : Hid ((L ++ F.data.toList).length ≤ (i + 1) * 65535) := by
     unfold Hid; rw [List.length_append]
     have : F.data.toList.length = F.size := by simp
     omega
    have HBY : Hid (Lib.byteCells (L ++ F.data.toList) = Lib.byteCells L ++ Lib.strCells F) := by unfold Hid; simp [Lib.byteCells, Lib.strCells]
    clear hLL hfl hqf
    by_cases hkd : k = .dom
    ·rw [decide_eq_true hkd] at HIN
     have HF : Hid (foldB b = F) := by unfold Hid; rw [← hF]; unfold foldP; rw [if_pos hkd]
     have HFO := hide' (fun w => fold_any b w (by unfold maxLen; omega))
     rw [HF.out] at HFO
     clear hkd hF HF
     go_wp2_with (first
      | (go_at_call 100; refine (HIN.out _).mono ?_; rintro e w3 ⟨rfl, hB3⟩; have hcb : w3.cell? ⟨wr.heap.size, 1, none⟩ = some (.string b) := (hB3.cell (by simp)).trans (by simp))
      | (go_at_call 37; refine (HFO.out _).mono ?_; rintro e w4 ⟨rfl, hB4⟩)
      | (go_at_call 101; refine (writeString_any w1.heap.size w1.heap.size (Lib.byteCells L) F w4 (builder_below (builder_below (hbu.alloc _) hB3) hB4) HCL.out (Nat.le_trans hBr.size (Nat.le_trans (by simp) (Nat.le_trans hB3.size hB4.size)))).mono ?_; rintro e w5 ⟨rfl, hbu5, hB5, hK5⟩))
     have hB4' : Below w1.heap.size w1 w4 := bstep (bstep (hBr.alloc hBr.size _) hB3 (by have := hBr.size; simp; omega)) hB4 (by have := hBr.size; have := hB3.size; simp at this; omega)
     have hg4 : w4.heap[g]? = some (.cells cur 158 (0, 0)) := (hB4.block g (by have := hB3.size; simp at this; omega)).trans ((hB3.block g (by simp; omega)).trans ((Below.heap_alloc _ _ g hgl).trans hgr2))
     refine ⟨⟨i + 1, by go_num, hlt, by rw [HTK.out, HBY.out]; exact .inr hbu5, by rw [HTK.out]; exact HLN.out, ?_, hB4'.trans hB5⟩, by simp [intOf]; omega⟩
     intro g' hg'
     injection hg' with hg'; injection hg' with hg'; subst hg'
     rw [hgc]; exact hK5 g _ hg4 (by simp; omega) (fun c fz e => by injection e with _ e; exact absurd e (by decide))
    ·rw [decide_eq_false hkd] at HIN
     have hFb : b = F := by rw [← hF]; unfold foldP; rw [if_neg hkd]
     subst hFb
     clear hkd hF
     go_wp2_with (first
      | (go_at_call 100; refine (HIN.out _).mono ?_; rintro e w4 ⟨rfl, hB3⟩; have hcb : w4.cell? ⟨wr.heap.size, 1, none⟩ = some (.string b) := (hB3.cell (by simp)).trans (by simp))
      | (go_at_call 101; refine (writeString_any w1.heap.size w1.heap.size (Lib.byteCells L) b w4 (builder_below (hbu.alloc _) hB3) HCL.out (Nat.le_trans hBr.size (Nat.le_trans (by simp) hB3.size))).mono ?_; rintro e w5 ⟨rfl, hbu5, hB5, hK5⟩))
     have hB4' : Below w1.heap.size w1 w4 := bstep (hBr.alloc hBr.size _) hB3 (by have := hBr.size; simp; omega)
     have hg4 : w4.heap[g]? = some (.cells cur 158 (0, 0)) := (hB3.block g (by simp; omega)).trans ((Below.heap_alloc _ _ g hgl).trans hgr2)
     refine ⟨⟨i + 1, by go_num, hlt, by rw [HTK.out, HBY.out]; exact .inr hbu5, by rw [HTK.out]; exact HLN.out, ?_, hB4'.trans hB5⟩, by simp [intOf]; omega⟩
     intro g' hg'
     injection hg' with hg'; injection hg' with hg'; subst hg'
     rw [hgc]; exact hK5 g _ hg4 (by simp; omega) (fun c fz e => by injection e with _ e; exact absurd e (by decide))
   ·obtain rfl : i = ps.length := by omega
    rw [List.take_length] at hbu
    go_wp2_with (go_at_call 102; refine (builderString_any w1.heap.size w1.heap.size (foldL ps) _ hbu hBr.size).mono ?_; rintro e w5 ⟨rfl, hbu5, hB5, hK5⟩)
    go_ret
    exact ⟨by rw [HN.out]; rfl, hBw1.trans ((hBr.trans hB5).mono hBw1.size)⟩
end Go.Proofs.YtoabnpdoicbpiaaGreat
