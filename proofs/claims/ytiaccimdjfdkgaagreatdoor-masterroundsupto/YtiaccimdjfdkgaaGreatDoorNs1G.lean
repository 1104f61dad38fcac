import Derived.Test.YtiaccimdjfdkgaaGreatDoorKs1G
import Derived.Shelf.Strings.BuilderK
import Derived.Shelf.Lay
import Derived.Ground.NamesProg
namespace Go.Proofs.YtiaccimdjfdkgaaGreatDoor
set_option linter.unusedVariables false
open Go.RowKit Go.Shelf Go.Proofs.YtiaccimdjfdkgaaGreatDoor.Nm

/-- the names among fields -/
def namesOf (ps : List (Kind × ByteArray)) : List ByteArray := ps.filterMap fun p => if p.1 = .dom then some p.2 else none
def namesD (t : Int) (d : ByteArray) : List ByteArray := match partsD t d with | none => [] | some ps => namesOf ps
theorem namesOf_len (ps : List (Kind × ByteArray)) : (namesOf ps).length ≤ ps.length := List.length_filterMap_le _ _
theorem namesOf_snoc (ps : List (Kind × ByteArray)) (q : Kind × ByteArray) : namesOf (ps ++ [q]) = namesOf ps ++ if q.1 = .dom then [q.2] else [] := by
  unfold namesOf; rw [List.filterMap_append]; congr 1
  by_cases h : q.1 = .dom <;> simp [h]
theorem flat_get : ∀ (ps : List (Kind × ByteArray)) (i : Nat) (h : i < ps.length), (flat ps)[i * 2]? = some (kindV ps[i].1) ∧ (flat ps)[i * 2 + 1]? = some (.string ps[i].2)
  | [], i, h => by simp at h
  | p :: ps, 0, h => by simp [flat]
  | p :: ps, i + 1, h => by
    have e : flat (p :: ps) = [kindV p.1, .string p.2] ++ flat ps := by simp [flat]
    have := flat_get ps i (by simpa using h)
    rw [e, show (i + 1) * 2 = i * 2 + 2 by omega, show i * 2 + 2 + 1 = (i * 2 + 1) + 2 by omega]
    simpa using this
theorem parts_few {t : Int} {d : ByteArray} {ps : List (Kind × ByteArray)} (h : partsD t d = some ps) : ps.length ≤ 9 ∧ d.size ≤ 65535 := by
  unfold partsD at h
  cases hk : kindsOf t with
  | none => rw [hk] at h; cases h
  | some ks =>
    rw [hk] at h
    change (if _ then _ else _) = _ at h
    split at h
    · cases h
    · have e : ∀ (ks : List Kind) (d : ByteArray) (ps : List (Kind × ByteArray)), partsOf ks d = some ps → ps.length = ks.length := by
        intro ks
        induction ks with
        | nil => intro d ps h; unfold partsOf at h; split at h <;> simp at h; subst h; rfl
        | cons k ks ih =>
          intro d ps h
          unfold partsOf at h
          cases hs : kindSize k d with
          | none => rw [hs] at h; cases h
          | some n =>
            rw [hs] at h
            simp only [Option.map_eq_some_iff] at h
            obtain ⟨q, hq, rfl⟩ := h
            simp [ih _ _ hq]
      have := e ks d ps h
      have := kinds_few hk
      omega

end Go.Proofs.YtiaccimdjfdkgaaGreatDoor

namespace Go.Proofs.YtiaccimdjfdkgaaGreatDoor
set_option linter.unusedVariables false
open Go.RowKit Go.Shelf Go.Proofs.YtiaccimdjfdkgaaGreatDoor.Nm

def Tryz.lays169_ren : Go.Shelf.Ren := ⟨fun | 169 => 22 | n => n, fun | 70 => 55 | 9 => 9 | 0 => 0 | 72 => 58 | 37 => 56 | 127 => 103 | 3 => 3 | 5 => 5 | n => n, fun | n => n⟩
theorem Tryz.lays169 : Go.Proofs.Lays.n169 Tryz.prog Tryz.lays169_ren := {
  mixed := by kernel_rfl
  f169 := Tryz.func22.trans (congrArg some (by kernel_rfl))
  t0 := Tryz.underlying0
  a0 := Tryz.isAgg0
  z0 := Tryz.sizeOf0
  v0 := Tryz.zeroValue0
  t3 := Tryz.underlying3
  a3 := Tryz.isAgg3
  z3 := Tryz.sizeOf3
  v3 := Tryz.zeroValue3
  t9 := Tryz.underlying9
  a9 := Tryz.isAgg9
  z9 := Tryz.sizeOf9
  v9 := Tryz.zeroValue9
  t37 := Tryz.underlying56
  a37 := Tryz.isAgg56
  z37 := Tryz.sizeOf56
  v37 := Tryz.zeroValue56
  t70 := Tryz.underlying55
  a70 := Tryz.isAgg55
  z70 := Tryz.sizeOf55
  v70 := Tryz.zeroValue55
  t72 := Tryz.underlying58
  a72 := Tryz.isAgg58
  z72 := Tryz.sizeOf58
  v72 := Tryz.zeroValue58
  t127 := Tryz.underlying103
  a127 := Tryz.isAgg103
  z127 := Tryz.sizeOf103
  v127 := Tryz.zeroValue103 }
set_option maxRecDepth 100000 in
theorem Tryz.extra169 : Builder.Extra Tryz.prog Tryz.lays169_ren where
  sizeBuilder := by kernel_rfl
  liesBuilder := by kernel_rfl
  t5 := Tryz.underlying5
  a5 := Tryz.isAgg5
  z5 := Tryz.sizeOf5
  v5 := Tryz.zeroValue5
  infoByte := by kernel_rfl
  cellsByte := by kernel_rfl
  sizeByte := by kernel_rfl
  neB5 := by decide
theorem builderString_any (B b : Nat) (l : List UInt8) (w : World) (h : Lib.IsBuilderF 58 5 B b (Lib.byteCells l) w) (hBw : B ≤ w.heap.size) :
    Calls Tryz.prog 22 #[.pointer (some ⟨b, 0, none⟩)] w fun e w' => e = .returned (.string ⟨l.toArray⟩) ∧ (Lib.IsBuilderF 58 5 B b (Lib.byteCells l) w' ∧ Below B w w' ∧ Lib.OthersKept 5 (some b) w w') :=
  Any.Builder_String_any_k Tryz.lays169 Tryz.extra169 B b l w h hBw

set_option maxRecDepth 100000 in
set_option maxHeartbeats 1000000 in
/-- (*strings.Builder).copyCheck, of a builder that has been used -/
theorem copyCheck_used (b : Nat) (w : World) (h0 : w.cell? ⟨b, 0, none⟩ = some (.pointer (some ⟨b, 0, none⟩))) :
    Calls Tryz.prog 32 #[.pointer (some ⟨b, 0, none⟩)] w fun e w' => e = .returned (.tuple #[]) ∧ w' = w := by
  obtain ⟨j, hj, _⟩ := Option.map_eq_some_iff.1 Tryz.extra169.sizeBuilder
  go_enter Tryz.func32, Tryz.ntmps32
  go_wp2
  rw [Lib.run_neq_ptr_same w _ Tryz.underlying55 hj]
  go_wp2
  go_end0
  exact ⟨rfl, rfl⟩
set_option maxRecDepth 100000 in
set_option maxHeartbeats 1000000 in
/-- .. of a new one -/
theorem copyCheck_fresh (b : Nat) (w : World) (h0 : w.cell? ⟨b, 0, none⟩ = some (.pointer none)) (hsh : w.shape? b = some (58, 2)) (hfz : w.frozen? ⟨b, 0, none⟩ = false) :
    Calls Tryz.prog 32 #[.pointer (some ⟨b, 0, none⟩)] w fun e w' => e = .returned (.tuple #[]) ∧ w' = w.setCell ⟨b, 0, none⟩ (.pointer (some ⟨b, 0, none⟩)) := by
  obtain ⟨j, hj, hjs⟩ := Option.map_eq_some_iff.1 Tryz.extra169.sizeBuilder
  go_enter Tryz.func32, Tryz.ntmps32
  go_wp2
  rw [Lib.run_to_unsafe w ⟨b, 0, none⟩ Tryz.underlying55 Tryz.underlying105 hj (by rw [hjs]; decide) hsh (Nat.zero_lt_succ 1)]
  simp only [Result.andThen]
  rw [Oper.upon_value]
  go_wp2
  rw [run_callFunc_extern Tryz.func61 (by kernel_rfl) (by kernel_rfl) (by kernel_rfl) (e := Extern.AbiNoEscape.same) (by kernel_rfl)]
  rw [Lib.run_noEscape]
  simp only [Result.andThen]
  rw [Oper.upon_value]
  go_wp2
  rw [Lib.run_from_unsafe w ⟨b, 0, none⟩ Tryz.underlying105 Tryz.underlying55 hj hsh Tryz.extra169.liesBuilder]
  simp only [Result.andThen]
  rw [Oper.upon_value]
  go_wp2
  go_end0
  exact ⟨rfl, rfl⟩
theorem copyCheck_any (B b : Nat) (bs : List Value) (w : World) (h : Lib.IsBuilderF 58 5 B b bs w) :
    Calls Tryz.prog 32 #[.pointer (some ⟨b, 0, none⟩)] w fun e w' => e = .returned (.tuple #[]) ∧ (Lib.BuilderAtF 58 5 B b (.pointer (some ⟨b, 0, none⟩)) bs w' ∧ Below B w w' ∧ Lib.OthersKept 5 (some b) w w') := by
  rcases h with h | h
  · refine (copyCheck_fresh b w h.cell0 h.shape h.frozen0).mono ?_
    rintro e w' ⟨rfl, rfl⟩
    exact ⟨rfl, h.used _, (Below.refl B w).setCell (p := ⟨b, 0, none⟩) h.1 _, (Lib.OthersKept.refl _ _ w).setCell ⟨b, 0, none⟩ rfl _⟩
  · refine (copyCheck_used b w h.cell0).mono ?_
    rintro e w' ⟨rfl, rfl⟩
    exact ⟨rfl, h, Below.refl B _, Lib.OthersKept.refl _ _ _⟩
set_option maxRecDepth 100000 in
set_option maxHeartbeats 1000000 in
/-- (*strings.Builder).WriteString -/
theorem writeString_any (B b : Nat) (bs : List Value) (s : ByteArray) (w : World) (h : Lib.IsBuilderF 58 5 B b bs w) (hlen : bs.length + s.size ≤ 140737488355328) (hBw : B ≤ w.heap.size) :
    Calls Tryz.prog 15 #[.pointer (some ⟨b, 0, none⟩), .string s] w fun e w' => e = .returned (.tuple #[.int .i64 s.size, .nilIface]) ∧ (Lib.BuilderAtF 58 5 B b (.pointer (some ⟨b, 0, none⟩)) (bs ++ Lib.strCells s) w' ∧ Below B w w' ∧ Lib.OthersKept 5 (some b) w w') := by
  obtain ⟨i0, hi, hz0, hz1, hz2⟩ := info_parts Tryz.infoByte
  go_enter Tryz.func15, Tryz.ntmps15
  go_wp2_with (first
    | (go_at_call 32; refine (copyCheck_any B b bs _ h).mono ?_; rintro e w1 ⟨rfl, ⟨hB, v, hbk, hown, hne⟩, hb1, hk1⟩; have c0 : w1.cell? ⟨b, 0, none⟩ = some (.pointer (some ⟨b, 0, none⟩)) := (by rw [Lib.cell_of_heap hbk]; rfl); have c1 : w1.cell? ⟨b, 1, none⟩ = some v := (by rw [Lib.cell_of_heap hbk]; rfl))
    | (at_builtin; refine Lib.wpList_append_own_stringF _ rfl _ _ 56 9 rfl B 5 i0 Tryz.underlying56 Tryz.underlying9 hi hz0 hz1 hz2 _ _ _ rfl hown s rfl (by unfold maxLen; omega) (by omega) (by have := hb1.size; omega) ?_; intro v' w2 hown' hgrow _
       have hlt : b < w1.heap.size := (Array.getElem?_eq_some_iff.1 hbk).1
       have hb2 : w2.heap[b]? = some (.cells #[.pointer (some ⟨b, 0, none⟩), v] 58 (0, 0)) := (hgrow.block b hlt (fun e => hne e.symm)).trans hbk
       have d0 : w2.cell? ⟨b, 0, none⟩ = some (.pointer (some ⟨b, 0, none⟩)) := (by rw [Lib.cell_of_heap hb2]; rfl)
       have d1 : w2.cell? ⟨b, 1, none⟩ = some v := (by rw [Lib.cell_of_heap hb2]; rfl)
       have f1 : w2.frozen? ⟨b, 1, none⟩ = false := Lib.frozen_of_heap hb2 1
       obtain ⟨ao, n', cap, rfl⟩ : ∃ ao n' cap, v' = .slice ao n' cap := (by
         rcases hown'.2 with ⟨hv, _⟩ | ⟨g, cap, cur, fz, hv, _⟩
         · exact ⟨_, _, _, hv⟩
         · exact ⟨_, _, _, hv⟩)))
  go_ret2
  refine ⟨rfl, ?_, ?_, (hk1.grown hgrow (Lib.ownsRowF_kind hown)).setCell ⟨b, 1, none⟩ rfl _⟩
  · exact Lib.BuilderAtF.put (T := 58) (e := 5) hB hb2 (bs' := bs ++ Lib.strCells s) (by simpa [Lib.strCells_length] using hown') (by decide)
  · exact (hb1.grown hgrow (by have := hb1.size; omega) (fun k hk => (hown.lt k hk).1)).setCell (p := ⟨b, 1, none⟩) hB _
end Go.Proofs.YtiaccimdjfdkgaaGreatDoor

namespace Go.Proofs.YtiaccimdjfdkgaaGreatDoor
set_option linter.unusedVariables false
open Go.RowKit Go.Shelf Go.Proofs.YtiaccimdjfdkgaaGreatDoor.Nm

/-- a builder stands while only what is new is written -/
theorem builder_below {T e B b : Nat} {bs : List Value} {w w' : World} (h : Lib.IsBuilderF T e B b bs w) (hb : Below w.heap.size w w') : Lib.IsBuilderF T e B b bs w' := by
  have key : ∀ p, Lib.BuilderAtF T e B b p bs w → Lib.BuilderAtF T e B b p bs w' := fun p hp => by
    obtain ⟨hB, v, hg, ⟨hl, ho⟩, hne⟩ := hp
    refine ⟨hB, v, (hb.block b (Array.getElem?_eq_some_iff.1 hg).1).trans hg, ⟨hl, ?_⟩, hne⟩
    rcases ho with ho | ⟨g, cap, cur, fz, h1, h2, h3, h4⟩
    · exact .inl ho
    · exact .inr ⟨g, cap, cur, fz, h1, h2, (hb.block g (Array.getElem?_eq_some_iff.1 h3).1).trans h3, h4⟩
  rcases h with h | h
  · exact .inl (key _ h)
  · exact .inr (key _ h)

/-- a field, folded -/
def foldP (q : Kind × ByteArray) : ByteArray := if q.1 = .dom then foldB q.2 else q.2
def foldL (ps : List (Kind × ByteArray)) : List UInt8 := ps.flatMap fun q => (foldP q).data.toList
def foldD (t : Int) (d : ByteArray) : ByteArray := match partsD t d with | none => ⟨#[]⟩ | some ps => ⟨(foldL ps).toArray⟩
theorem foldP_size (q : Kind × ByteArray) : (foldP q).size ≤ q.2.size := by
  unfold foldP foldB
  split
  · split
    · rw [lowB_size]; exact Nat.le_refl _
    · simp
  · exact Nat.le_refl _
theorem parts_small : ∀ (ks : List Kind) (d : ByteArray) (ps : List (Kind × ByteArray)), partsOf ks d = some ps → ∀ q ∈ ps, q.2.size ≤ d.size
  | [], d, ps, h, q, hq => by unfold partsOf at h; split at h <;> simp at h; subst h; cases hq
  | k :: ks, d, ps, h, q, hq => by
    unfold partsOf at h
    cases hs : kindSize k d with
    | none => rw [hs] at h; cases h
    | some n =>
      rw [hs] at h
      simp only [Option.map_eq_some_iff] at h
      obtain ⟨r, hr, rfl⟩ := h
      have hn := kindSize_le hs
      rcases List.mem_cons.1 hq with rfl | h2
      · show (d.extract 0 n).size ≤ _; rw [size_extract' _ _ _ hn]; omega
      · have := parts_small ks _ r hr q h2
        rw [size_extract' _ _ _ (Nat.le_refl _)] at this; omega
theorem partsD_small {t : Int} {d : ByteArray} {ps : List (Kind × ByteArray)} (h : partsD t d = some ps) : ∀ q ∈ ps, q.2.size ≤ 65535 := fun q hq => by
  have hd := (parts_few h).2
  unfold partsD at h
  cases hk : kindsOf t with
  | none => rw [hk] at h; cases h
  | some ks =>
    rw [hk] at h
    change (if _ then _ else _) = _ at h
    split at h
    · cases h
    · exact Nat.le_trans (parts_small ks d ps h q hq) hd
theorem foldL_snoc (ps : List (Kind × ByteArray)) (q : Kind × ByteArray) : foldL (ps ++ [q]) = foldL ps ++ (foldP q).data.toList := by simp [foldL]
theorem errD_of_parts {t : Int} {d : ByteArray} {ps : List (Kind × ByteArray)} (hp : partsD t d = some ps) : errD t d = 0 := by
  unfold errD
  cases hk : kindsOf t with
  | none => unfold partsD at hp; rw [hk] at hp; cases hp
  | some ks => rw [hp]
theorem errD_of_none {t : Int} {d : ByteArray} (hp : partsD t d = none) : errD t d = 6 ∨ errD t d = 7 := by
  unfold errD
  cases hk : kindsOf t with
  | none => exact .inl rfl
  | some ks => rw [hp]; exact .inr rfl

end Go.Proofs.YtiaccimdjfdkgaaGreatDoor
