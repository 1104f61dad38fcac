import Derived.Test.YtmbjmokhkonpiaaGreatDoorSu1G
import Derived.Laws.Rows
import Derived.Shelf.Strconv.Itoa3
import Derived.Shelf.Lay
import Derived.Ground.NamesProg
import Derived.Lib.LaidTab
import Derived.Lib.ItoaLen
import Derived.Lib.AppendIntMem
namespace Go.Proofs.YtmbjmokhkonpiaaGreatDoor
set_option linter.unusedVariables false
open Go.RowKit Go.Shelf Go.Proofs.YtmbjmokhkonpiaaGreatDoor.Nm

/-- the types that have a word -/
def tw : List (Nat × ByteArray) := [(1, ⟨#[65]⟩), (2, ⟨#[78, 83]⟩), (5, ⟨#[67, 78, 65, 77, 69]⟩), (6, ⟨#[83, 79, 65]⟩), (12, ⟨#[80, 84, 82]⟩), (13, ⟨#[72, 73, 78, 70, 79]⟩), (15, ⟨#[77, 88]⟩), (16, ⟨#[84, 88, 84]⟩), (28, ⟨#[65, 65, 65, 65]⟩), (33, ⟨#[83, 82, 86]⟩), (35, ⟨#[78, 65, 80, 84, 82]⟩), (39, ⟨#[68, 78, 65, 77, 69]⟩), (41, ⟨#[79, 80, 84]⟩), (43, ⟨#[68, 83]⟩), (46, ⟨#[82, 82, 83, 73, 71]⟩), (47, ⟨#[78, 83, 69, 67]⟩), (48, ⟨#[68, 78, 83, 75, 69, 89]⟩), (50, ⟨#[78, 83, 69, 67, 51]⟩), (51, ⟨#[78, 83, 69, 67, 51, 80, 65, 82, 65, 77]⟩), (251, ⟨#[73, 88, 70, 82]⟩), (252, ⟨#[65, 88, 70, 82]⟩), (255, ⟨#[65, 78, 89]⟩), (257, ⟨#[67, 65, 65]⟩)]
/-- .. as cells -/
def twV : List Value := tw.flatMap fun r => [.int .i64 (r.1 : Int), .string r.2]
/-- the program's table lies where it must -/
def TW (w : World) : Prop := ∃ t fr, w.heap[0]? = some (.cells twV.toArray t fr)
theorem TW.below {w w' : World} {n : Nat} (h : TW w) (hb : Below n w w') (hn : 0 < n) : TW w' := by
  obtain ⟨t, fr, h⟩ := h
  exact ⟨t, fr, (hb.block _ hn).trans h⟩
theorem TW.lt {w : World} (h : TW w) : 0 < w.heap.size := by
  obtain ⟨t, fr, h⟩ := h
  exact (Array.getElem?_eq_some_iff.1 h).1
theorem tw_get : ∀ (l : List (Nat × ByteArray)) (i : Nat) (h : i < l.length), (l.flatMap fun r => [Value.int .i64 (r.1 : Int), .string r.2])[i * 2]? = some (.int .i64 (l[i].1 : Int)) ∧ (l.flatMap fun r => [Value.int .i64 (r.1 : Int), .string r.2])[i * 2 + 1]? = some (.string l[i].2)
  | [], i, h => by simp at h
  | p :: ps, 0, h => by simp
  | p :: ps, i + 1, h => by
    have := tw_get ps i (by simpa using h)
    rw [show (i + 1) * 2 = i * 2 + 2 by omega, show i * 2 + 2 + 1 = (i * 2 + 1) + 2 by omega]
    simpa using this
theorem tw_len : tw.length = 23 := rfl
theorem tw_small : ∀ r ∈ tw, 1 ≤ r.1 ∧ r.1 ≤ 257 ∧ r.2.size ≤ 10 := by decide
theorem Tryz.sizeRow : (Tryz.prog.info? 68).map (·.size) = some 2 := by kernel_rfl
theorem tw_index (i : Nat) (h : i < 23) (w : World) : (Instr.index 69 (.agg twV.toArray) (.int .i64 (i : Int))).run Tryz.prog w = .ok (.agg #[.int .i64 ((tw[i]'(by rw [tw_len]; exact h)).1 : Int), .string (tw[i]'(by rw [tw_len]; exact h)).2]) w := by
  obtain ⟨h1, h2⟩ := tw_get tw i (by rw [tw_len]; exact h)
  have hl : twV.length = 46 := rfl
  have e1 : twV[i * 2]? = _ := h1
  have e2 : twV[i * 2 + 1]? = _ := h2
  obtain ⟨j, hj, hjs⟩ := Option.map_eq_some_iff.1 Tryz.sizeRow
  obtain ⟨q1, g1⟩ := List.getElem?_eq_some_iff.1 e1
  obtain ⟨q2, g2⟩ := List.getElem?_eq_some_iff.1 e2
  have hx : List.take 2 (List.drop (i * 2) twV) = [.int .i64 ((tw[i]'(by rw [tw_len]; exact h)).1 : Int), .string (tw[i]'(by rw [tw_len]; exact h)).2] := by
    rw [List.drop_eq_getElem_cons q1, List.drop_eq_getElem_cons q2, g1, g2]; rfl
  simp [Instr.index, asIntOf, run_underlying Tryz.underlying69, h, part, Tryz.isAgg68, sizeOf, typeInfo, hj, hjs, hx]

/-- a type's word, as the list has it -/
def twFind (t : Int) : Option ByteArray := (tw.find? fun r => decide ((r.1 : Int) = t)).map (·.2)
theorem twFind_none {t : Int} : ∀ {l : List (Nat × ByteArray)}, (∀ r ∈ l, (r.1 : Int) ≠ t) → (l.find? fun r => decide ((r.1 : Int) = t)) = none := fun {l} h => List.find?_eq_none.2 (fun r hr => by simpa using h r hr)
theorem twFind_at {t : Int} {l : List (Nat × ByteArray)} {i : Nat} (h : i < l.length) (he : (l[i].1 : Int) = t) (hn : ∀ j, (hj : j < l.length) → j < i → (l[j].1 : Int) ≠ t) : (l.find? fun r => decide ((r.1 : Int) = t)) = some l[i] := by
  rw [List.find?_eq_some_iff_getElem]
  exact ⟨by simpa using he, i, h, rfl, fun j hj => by simpa using hn j (by omega) hj⟩
end Go.Proofs.YtmbjmokhkonpiaaGreatDoor

namespace Go.Proofs.YtmbjmokhkonpiaaGreatDoor
set_option linter.unusedVariables false
open Go.RowKit Go.Shelf Go.Proofs.YtmbjmokhkonpiaaGreatDoor.Nm

def Tryz.laysM171_ren : Go.Shelf.Ren := ⟨fun | 171 => 15 | 243 => 38 | 246 => 58 | 283 => 72 | 284 => 73 | 285 => 74 | 286 => 75 | 129 => 80 | 317 => 79 | 318 => 81 | 319 => 82 | 320 => 83 | 337 => 84 | 338 => 85 | n => n, fun | 3 => 3 | 9 => 9 | 2 => 2 | 4 => 4 | 171 => 114 | 0 => 0 | 53 => 115 | 37 => 34 | 5 => 5 | 173 => 118 | 212 => 123 | 51 => 124 | 20 => 20 | 213 => 125 | 46 => 126 | 232 => 129 | 233 => 130 | n => n, fun | 17 => 1 | 18 => 3 | 19 => 4 | n => n⟩
theorem Tryz.laysM171 : Go.Proofs.LaysM.n171 Tryz.prog Tryz.laysM171_ren := {
  mixed := by kernel_rfl
  f129 := Tryz.func80.trans (congrArg some (by kernel_rfl))
  f171 := Tryz.func15.trans (congrArg some (by kernel_rfl))
  f243 := Tryz.func38.trans (congrArg some (by kernel_rfl))
  f246 := Tryz.func58.trans (congrArg some (by kernel_rfl))
  f283 := Tryz.func72.trans (congrArg some (by kernel_rfl))
  f284 := Tryz.func73.trans (congrArg some (by kernel_rfl))
  f285 := Tryz.func74.trans (congrArg some (by kernel_rfl))
  f286 := Tryz.func75.trans (congrArg some (by kernel_rfl))
  f317 := Tryz.func79.trans (congrArg some (by kernel_rfl))
  f318 := Tryz.func81.trans (congrArg some (by kernel_rfl))
  f319 := Tryz.func82.trans (congrArg some (by kernel_rfl))
  f320 := Tryz.func83.trans (congrArg some (by kernel_rfl))
  f337 := Tryz.func84.trans (congrArg some (by kernel_rfl))
  f338 := Tryz.func85.trans (congrArg some (by kernel_rfl))
  t0 := Tryz.underlying0
  a0 := Tryz.isAgg0
  z0 := Tryz.sizeOf0
  v0 := Tryz.zeroValue0
  t2 := Tryz.underlying2
  a2 := Tryz.isAgg2
  z2 := Tryz.sizeOf2
  v2 := Tryz.zeroValue2
  t3 := Tryz.underlying3
  a3 := Tryz.isAgg3
  z3 := Tryz.sizeOf3
  v3 := Tryz.zeroValue3
  t4 := Tryz.underlying4
  a4 := Tryz.isAgg4
  z4 := Tryz.sizeOf4
  v4 := Tryz.zeroValue4
  t5 := Tryz.underlying5
  a5 := Tryz.isAgg5
  z5 := Tryz.sizeOf5
  v5 := Tryz.zeroValue5
  t9 := Tryz.underlying9
  a9 := Tryz.isAgg9
  z9 := Tryz.sizeOf9
  v9 := Tryz.zeroValue9
  t20 := Tryz.underlying20
  a20 := Tryz.isAgg20
  z20 := Tryz.sizeOf20
  v20 := Tryz.zeroValue20
  t37 := Tryz.underlying34
  a37 := Tryz.isAgg34
  z37 := Tryz.sizeOf34
  v37 := Tryz.zeroValue34
  t46 := Tryz.underlying126
  a46 := Tryz.isAgg126
  z46 := Tryz.sizeOf126
  v46 := Tryz.zeroValue126
  t51 := Tryz.underlying124
  a51 := Tryz.isAgg124
  z51 := Tryz.sizeOf124
  v51 := Tryz.zeroValue124
  t53 := Tryz.underlying115
  a53 := Tryz.isAgg115
  z53 := Tryz.sizeOf115
  v53 := Tryz.zeroValue115
  t171 := Tryz.underlying114
  a171 := Tryz.isAgg114
  z171 := Tryz.sizeOf114
  v171 := Tryz.zeroValue114
  t173 := Tryz.underlying118
  a173 := Tryz.isAgg118
  z173 := Tryz.sizeOf118
  v173 := Tryz.zeroValue118
  t212 := Tryz.underlying123
  a212 := Tryz.isAgg123
  z212 := Tryz.sizeOf123
  v212 := Tryz.zeroValue123
  t213 := Tryz.underlying125
  a213 := Tryz.isAgg125
  z213 := Tryz.sizeOf125
  t232 := Tryz.underlying129
  a232 := Tryz.isAgg129
  z232 := Tryz.sizeOf129
  v232 := Tryz.zeroValue129
  t233 := Tryz.underlying130
  a233 := Tryz.isAgg130
  z233 := Tryz.sizeOf130
  v233 := Tryz.zeroValue130
  g17 := by kernel_rfl
  g18 := by kernel_rfl
  g19 := by kernel_rfl
  i0 := by kernel_rfl
  i2 := by kernel_rfl
  i3 := by kernel_rfl
  i4 := by kernel_rfl
  i5 := by kernel_rfl
  i9 := by kernel_rfl
  i20 := by kernel_rfl
  i37 := by kernel_rfl
  i46 := by kernel_rfl
  i51 := by kernel_rfl
  i53 := by kernel_rfl
  i171 := by kernel_rfl
  i173 := by kernel_rfl
  i212 := by kernel_rfl
  i232 := by kernel_rfl
  i233 := by kernel_rfl
  m17 := by kernel_rfl
  m18 := by kernel_rfl
  m19 := by kernel_rfl }
/-- what lies in memory ahead of a call -/
structure GW (w : World) : Prop where
  words : TW w
  tab : Lib.TabIs Tryz.prog w "internal/strconv.uint64pow10" .u64 Lib.pow10Tab
  errs : Gl w
theorem gPow : Tryz.prog.globalNamed "internal/strconv.uint64pow10" = some 1 := by kernel_rfl
theorem var_below {w w' : World} {n : Nat} {nm : String} {g : Nat} {cs : Array Value} (hg : Tryz.prog.globalNamed nm = some g) (h : w.var? Tryz.prog nm = some cs) (hb : Below n w w') (hn : g < n) : w'.var? Tryz.prog nm = some cs := by
  unfold World.var? at h ⊢
  rw [hg] at h ⊢
  simp only [Option.bind_some] at h ⊢
  rw [hb.block g hn]; exact h
theorem var_lt {w : World} {nm : String} {g : Nat} {cs : Array Value} (hg : Tryz.prog.globalNamed nm = some g) (h : w.var? Tryz.prog nm = some cs) : g < w.heap.size := by
  unfold World.var? at h
  rw [hg] at h
  simp only [Option.bind_some] at h
  rcases Nat.lt_or_ge g w.heap.size with h' | h'
  · exact h'
  · rw [Array.getElem?_eq_none h'] at h; cases h
theorem GW.below {w w' : World} (h : GW w) (hb : Below w.heap.size w w') : GW w' := ⟨h.words.below hb h.words.lt, var_below gPow h.tab hb (var_lt gPow h.tab), trivial⟩
/-- how a type is written -/
def nameT (t : Int) : ByteArray := if isTy t = true then (match twFind t with | some s => s | none => ⟨#[84, 89, 80, 69]⟩ ++ ⟨(Lib.itoa t).toArray⟩) else ⟨#[]⟩

set_option maxRecDepth 100000 in
set_option maxHeartbeats 1000000 in
/-- data.TypeName -/
theorem typeName_any (t : Int) (w : World) (hG : GW w) (ht9 : -9223372036854775808 ≤ t ∧ t ≤ 9223372036854775807) :
    Calls Tryz.prog 16 #[.int .i64 t] w fun e w' => e = .returned (.string (nameT t)) ∧ Below w.heap.size w w' := by
  cases hty : isTy t with
  | false =>
    have HE : Hid (nameT t = ⟨#[]⟩) := by unfold Hid nameT; rw [if_neg (by rw [hty]; decide)]
    have HI : Hid (isTy t = false) := hty
    clear hty
    go_enter Tryz.func16, Tryz.ntmps16
    go_wp2_with (go_at_call 39; refine (isType_any _ _).mono ?_; rintro e w2 ⟨rfl, rfl⟩; rw [HI.out])
    go_ret
    exact ⟨by rw [HE.out]; rfl, Below.refl _ _⟩
  | true =>
    have HI : Hid (isTy t = true) := hty
    have ht := of_decide_eq_true hty
    have HN : Hid (nameT t = match twFind t with | some s => s | none => ⟨#[84, 89, 80, 69]⟩ ++ ⟨(Lib.itoa t).toArray⟩) := by unfold Hid nameT; rw [if_pos hty]
    obtain ⟨tT, fT, hTW⟩ := hG.words
    have hsz : (Tryz.prog.info? 69).map (·.size) = some twV.toArray.size := by kernel_rfl
    have HTW := hide' hTW
    clear hty hTW
    go_enter Tryz.func16, Tryz.ntmps16
    go_wp2_with (first
      | (go_at_call 39; refine (isType_any _ _).mono ?_; rintro e w2 ⟨rfl, rfl⟩; rw [HI.out])
      | (refine wpList_load_row rfl 69 _ rfl 0 rfl tT twV.toArray fT _ HTW.out Tryz.underlying69 rfl hsz ?_))
    have hsmall := tw_small
    go_loopw [9] (fun iv wr => ∃ i : Nat, iv = .int .i64 i ∧ i ≤ 23 ∧ Hid (∀ j, (hj : j < tw.length) → j < i → (tw[j].1 : Int) ≠ t) ∧ Below w2.heap.size w2 wr) (fun iv _ => 23 - (intOf iv).toNat)
    case atStart => exact ⟨0, rfl, by omega, fun j hj h => absurd h (Nat.not_lt_zero _), Below.refl _ _⟩
    case round =>
      obtain ⟨i, rfl, hi, HJ, hBr⟩ := hrel
      by_cases hlt : i < 23
      · have hidx := tw_index i hlt
        have hil : i < tw.length := by rw [tw_len]; exact hlt
        have hsm := hsmall tw[i] (List.getElem_mem hil)
        by_cases he : (tw[i].1 : Int) = t
        · have HE : Hid (nameT t = tw[i].2) := by
            unfold Hid; rw [HN.out]; unfold twFind; rw [twFind_at hil he HJ.out]; rfl
          rw [he] at hidx
          clear he hsmall hsm HJ HN
          generalize tw[i] = r at *
          go_wp2
          go_ret
          exact ⟨by rw [HE.out]; rfl, hBr.alloc hBr.size _⟩
        · have HJ2 : Hid (∀ j, (hj : j < tw.length) → j < i + 1 → (tw[j].1 : Int) ≠ t) := fun j hj h => by
            by_cases e : j = i
            · subst e; exact he
            · exact HJ.out j hj (by omega)
          have heb : ((tw[i].1 : Int) == t) = false := by rw [beq_eq_false_iff_ne]; exact he
          clear he hsmall HJ HN
          generalize tw[i] = r at *
          go_wp2
          exact ⟨⟨i + 1, by go_num, hlt, HJ2, hBr.alloc hBr.size _⟩, by simp [intOf]; omega⟩
      · have hnf : twFind t = none := by
          unfold twFind
          rw [twFind_none (l := tw) (fun r hr => by
            obtain ⟨j, hj, rfl⟩ := List.mem_iff_getElem.1 hr
            have := tw_len
            exact HJ.out j hj (by omega))]
          rfl
        have HE : Hid (nameT t = ⟨#[84, 89, 80, 69]⟩ ++ ⟨(Lib.itoa t).toArray⟩) := by unfold Hid; rw [HN.out, hnf]
        have HIT := hide' (Any.strconv_Itoa Tryz.laysM171 t ht9.1 ht9.2 wr (hG.below hBr).tab)
        have hil : (Lib.itoa t).length ≤ 21 := Lib.itoa_length_le _ ht9.1 ht9.2
        have had : ∀ W : World, (Op.stringOp .add ⟨#[84, 89, 80, 69]⟩ ⟨(Lib.itoa t).toArray⟩).run Tryz.prog W = .ok (.string (⟨#[84, 89, 80, 69]⟩ ++ ⟨(Lib.itoa t).toArray⟩)) W := fun W => run_string_add_sum W _ _ (by simp [ByteArray.size]; omega)
        clear HN HJ hnf hsmall
        go_wp2_with (go_at_call 15; refine HIT.out.mono ?_; rintro e w3 ⟨rfl, k, os, rfl⟩)
        go_ret
        exact ⟨by rw [HE.out]; rfl, bstep hBr (Lib.below_grow _ _ (Nat.le_refl _) _ _) hBr.size⟩
end Go.Proofs.YtmbjmokhkonpiaaGreatDoor
