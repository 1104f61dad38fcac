import Derived.Test.YtgekfhghambacaaGreatCc3G
import Derived.Test.YtgekfhghambacaaGreatFt1G
import Derived.LaidEqlPtr
/-
  Chapter 12: slices.DeleteFunc of pointers to entries. (The verifier's own text; after Zf2.)
-/
namespace Go.Proofs.YtgekfhghambacaaGreat
set_option linter.unusedVariables false
set_option linter.unusedSimpArgs false
open Go.RowKit Go.Shelf Go.Maps

/-- a pointer that may be nil -/
def goV (o : Option Nat) : Value := .pointer (o.map fun b => ⟨b, 0, none⟩)
def isG (o : Option Nat) (b : Nat) : Bool := decide (some b = o)
def cvG (G : Nat) : Value := .pointer (some ⟨G, 0, none⟩)
theorem lt_cellC {w : World} {a : Addr} {v : Value} (h : w.cell? a = some v) : a.block < w.heap.size := by
  unfold World.cell? at h
  split at h
  · rename_i hh
    exact (Array.getElem?_eq_some_iff.1 hh).1
  · cases h
/-- an entry's block -/
def isE (w : World) (b : Nat) : Prop := ∃ ca, Bx w b ca 63
theorem infoEn : (Tryz.prog.info? 63).map (fun i => i.size) = some 9 := by kernel_rfl
theorem peUnder : Tryz.prog.underlying 54 = some (.pointer 63) := Tryz.underlying54
set_option maxRecDepth 100000 in
set_option maxHeartbeats 1000000 in
theorem forget1_any (o : Option Nat) (b G : Nat) (w : World) (h : w.cell? ⟨G, 0, none⟩ = some (goV o)) (hb : isE w b) (ho : ∀ c, o = some c → isE w c) :
    Calls Tryz.prog 44 #[peV b, cvG G] w fun r w' => r = .returned (.bool (isG o b)) ∧ w' = w := by
  obtain ⟨j, hj, hz⟩ : ∃ j, Tryz.prog.info? 63 = some j ∧ j.size = 9 := by
    have := infoEn
    cases hc : Tryz.prog.info? 63 with
    | none => rw [hc] at this; cases this
    | some j => rw [hc] at this; exact ⟨j, rfl, by simpa using this⟩
  unfold peV cvG
  cases o with
  | none =>
    replace h : w.cell? ⟨G, 0, none⟩ = some (.pointer none) := h
    have e : isG none b = false := rfl
    rw [e]
    go_enter Tryz.func44, Tryz.ntmps44
    go_wp2_with fail
    go_ret
    exact ⟨rfl, rfl⟩
  | some c =>
    replace h : w.cell? ⟨G, 0, none⟩ = some (.pointer (some ⟨c, 0, none⟩)) := h
    by_cases e : b = c
    · subst e
      have e2 : isG (some b) b = true := by simp [isG]
      have hr := run_eql_ptr_same (P := Tryz.prog) w ⟨b, 0, none⟩ peUnder hj
      rw [e2]
      go_enter Tryz.func44, Tryz.ntmps44
      go_wp2_with fail
      go_ret
      exact ⟨rfl, rfl⟩
    · have e2 : isG (some c) b = false := by simp [isG, e]
      obtain ⟨ca, ha⟩ := hb
      obtain ⟨cb, hcb⟩ := ho c rfl
      have hr := run_eql_ptr_other (P := Tryz.prog) w (a := ⟨b, 0, none⟩) (b := ⟨c, 0, none⟩) peUnder hj (by omega) (fun h => e (by injection h)) ha hcb
      rw [e2]
      go_enter Tryz.func44, Tryz.ntmps44
      go_wp2_with fail
      go_ret
      exact ⟨rfl, rfl⟩
/-- pointers in a block -/
def PtAt (w : World) (p : Option Addr) (B : List Nat) : Prop := ∀ k, (hk : k < B.length) → ∃ g, p = some ⟨g, 0, none⟩ ∧ w.cell? ⟨g, k, none⟩ = some (peV B[k])
set_option maxRecDepth 100000 in
set_option maxHeartbeats 1000000 in
/-- slices.IndexFunc -/
theorem indexG_any (B : List Nat) (o : Option Nat) (G : Nat) (p : Option Addr) (cap : Nat) (w : World) (hL : B.length ≤ 4294967296) (hat : PtAt w p B) (hG : w.cell? ⟨G, 0, none⟩ = some (goV o)) (hE : ∀ b ∈ B, isE w b) (ho : ∀ c, o = some c → isE w c) :
    Calls Tryz.prog 62 #[.slice p B.length cap, .func (Fn.func 44) #[] #[cvG G]] w fun r w' => ((r = .returned (.int .i64 (-1)) ∧ ∀ x ∈ B, isG o x = false) ∨ ∃ i : Nat, ∃ hi : i < B.length, r = .returned (.int .i64 (i : Int)) ∧ isG o B[i] = true ∧ ∀ x ∈ B.take i, isG o x = false) ∧ w' = w := by
  have HA := hide' hat
  have HC := hide' (fun b hb => forget1_any o b G w hG (hE b hb) ho)
  clear hat hG hE ho
  unfold cvG at *
  go_enter Tryz.func62, Tryz.ntmps62
  go_wp2_with fail
  go_loopw [8] (fun i wr => ∃ k : Nat, i = .int .i64 (k : Int) ∧ k ≤ B.length ∧ Hid (∀ x ∈ B.take k, isG o x = false) ∧ Hid (wr = w)) (fun i _ => B.length - (intOf i).toNat)
  case atStart => exact ⟨0, rfl, Nat.zero_le _, (fun x h => by simp at h), rfl⟩
  case round =>
    obtain ⟨k, rfl, hk, HN, HW⟩ := hrel
    obtain rfl := HW.out
    by_cases hlt : k < B.length
    · obtain ⟨g, rfl, e0⟩ := HA.out k hlt
      have HTk : Hid (B.take (k + 1) = B.take k ++ [B[k]]) := List.take_succ_eq_append_getElem hlt
      obtain ⟨x, hx⟩ : ∃ x, B[k] = x := ⟨_, rfl⟩
      have HX := hide' hx
      have hxm : x ∈ B := hx ▸ List.getElem_mem hlt
      have HCx := hide' (HC.out x hxm)
      rw [hx] at e0 HTk
      clear hx hxm
      cases hp : isG o x with
      | true =>
        have HP := hide' hp
        go_wp2_with (go_at_call 44; refine HCx.out.mono ?_; rintro r w2 ⟨rfl, rfl⟩; rw [hp])
        go_ret
        refine ⟨.inr ⟨k, hlt, rfl, ?_, HN.out⟩, (by first | rfl | trivial)⟩
        rw [HX.out]; exact HP.out
      | false =>
        have HP := hide' hp
        go_wp2_with (go_at_call 44; refine HCx.out.mono ?_; rintro r w2 ⟨rfl, rfl⟩; rw [hp])
        go_roundw
        case rel =>
          refine ⟨k + 1, by go_num, by omega, ?_, (by first | trivial | rfl)⟩
          intro y hy
          rw [HTk.out] at hy
          rcases List.mem_append.1 hy with h | h
          · exact HN.out y h
          · rw [List.mem_singleton.1 h]; exact HP.out
        case measure => simp [intOf]; omega
    · have hkk : k = B.length := by omega
      have HKK := hide' hkk
      clear hkk
      go_wp2_with fail
      go_ret
      refine ⟨.inl ⟨rfl, ?_⟩, rfl⟩
      intro x hx
      have := HN.out x
      rw [HKK.out, List.take_length] at this
      exact this hx
/-- what stays -/
def kG (o : Option Nat) (B : List Nat) : List Nat := B.filter fun b => !isG o b
theorem kG_all {o : Option Nat} {B : List Nat} (h : ∀ x ∈ B, isG o x = false) : kG o B = B := List.filter_eq_self.2 fun x hx => by rw [h x hx]; rfl
theorem kG_app (o : Option Nat) (A B : List Nat) : kG o (A ++ B) = kG o A ++ kG o B := List.filter_append ..
theorem runG_from (g len cap i : Nat) (hi : i ≤ len) (hc : len ≤ cap) (hne : i < cap) (W : World) : (Instr.slice 89 (.slice (some ⟨g, 0, none⟩) len cap) (some (.int .i64 (i : Int))) none none).run Tryz.prog W = .ok (.slice (some ⟨g, i, none⟩) (len - i) (cap - i)) W := by
  have ht' : Tryz.prog.underlying 89 = some (.slice (Tryz.prog.elem 89)) := by simp [Program.elem, Tryz.underlying89]
  have he' : Tryz.prog.elem 89 = 54 := by simp [Program.elem, Tryz.underlying89]
  rw [run_slice_l W _ _ _ _ ht' .i64 _ (by omega) (by omega), he', Tryz.sizeOf54]
  have e1 : ¬ cap = i := by omega
  rcases Nat.eq_zero_or_pos i with rfl | hp
  · simp [Result.andThen, sliced, Addr.add]
  · have e2 : ¬ i = 0 := by omega
    simp [Result.andThen, sliced, Addr.add, e1, e2]
    try omega
theorem runG_upto (g len cap i : Nat) (hc : i ≤ cap) (W : World) : (Instr.slice 89 (.slice (some ⟨g, 0, none⟩) len cap) none (some (.int .i64 (i : Int))) none).run Tryz.prog W = .ok (.slice (some ⟨g, 0, none⟩) i cap) W := by
  have ht' : Tryz.prog.underlying 89 = some (.slice (Tryz.prog.elem 89)) := by simp [Program.elem, Tryz.underlying89]
  have he' : Tryz.prog.elem 89 = 54 := by simp [Program.elem, Tryz.underlying89]
  rw [run_slice_h W _ _ _ _ ht' .i64 _ (by omega) (by omega), he', Tryz.sizeOf54]
  simp [Result.andThen, sliced, Addr.add]
/-- where DeleteFunc stands -/
structure Dg (o : Option Nat) (w wr : World) (g : Nat) (B : List Nat) (rest : List Value) (i j : Nat) (F : List Value) : Prop where
  bx : Bx wr g (F ++ rest).toArray 54
  len : F.length = B.length
  took : F.take i = (kG o (B.take j)).map peV
  drop : F.drop j = (B.drop j).map peV
  gr : w.grownBy wr (some g)
theorem Dg.skip {o : Option Nat} {w wr : World} {g : Nat} {B : List Nat} {rest : List Value} {i j : Nat} {F : List Value} (h : Dg o w wr g B rest i j F) (hj : j < B.length) (hp : isG o B[j] = true) : Dg o w wr g B rest i (j + 1) F := by
  refine ⟨h.bx, h.len, ?_, ?_, h.gr⟩
  · rw [h.took, List.take_succ_eq_append_getElem hj, kG_app]
    have : kG o [B[j]] = [] := by simp [kG, hp]
    rw [this, List.append_nil]
  · have := congrArg (List.drop 1) h.drop
    simpa [List.drop_drop, Nat.add_comm] using this
theorem Dg.keep {o : Option Nat} {w wr : World} {g : Nat} {B : List Nat} {rest : List Value} {i j : Nat} {F : List Value} (h : Dg o w wr g B rest i j F) (hj : j < B.length) (hi : i < j) (hp : isG o B[j] = false) : Dg o w (wr.setCell ⟨g, i, none⟩ (peV B[j])) g B rest (i + 1) (j + 1) (F.set i (peV B[j])) := by
  have hl := h.len
  have h2 := h.bx.set i (peV B[j])
  have e2 : (F ++ rest).toArray.setIfInBounds i (peV B[j]) = (F.set i (peV B[j]) ++ rest).toArray := by
    rw [List.setIfInBounds_toArray, List.set_append_left _ _ (by omega)]
  rw [e2] at h2
  refine ⟨h2, by simpa using hl, ?_, ?_, grown_trans h.gr (grown_set _ _ _ _)⟩
  · rw [List.take_succ_eq_append_getElem (by simp; omega), List.take_set_of_le (Nat.le_refl _), h.took, List.take_succ_eq_append_getElem hj, kG_app]
    have : kG o [B[j]] = [B[j]] := by simp [kG, hp]
    rw [this]
    simp
  · rw [List.drop_set_of_lt (by omega)]
    have := congrArg (List.drop 1) h.drop
    simpa [List.drop_drop, Nat.add_comm] using this
theorem Dg.at {o : Option Nat} {w wr : World} {g : Nat} {B : List Nat} {rest : List Value} {i j : Nat} {F : List Value} (h : Dg o w wr g B rest i j F) (hj : j < B.length) : wr.cell? ⟨g, j, none⟩ = some (peV B[j]) := by
  have hl := h.len
  have hF : F[j]? = some (peV B[j]) := by
    have := congrArg (fun l => l[0]?) h.drop
    simp only [List.getElem?_drop, Nat.add_zero, List.getElem?_map] at this
    rw [this, List.getElem?_eq_getElem hj]; rfl
  refine h.bx.cell ?_
  rw [List.getElem?_toArray, List.getElem?_append_left (by omega), hF]
theorem Dg.there {o : Option Nat} {w wr : World} {g : Nat} {B : List Nat} {rest : List Value} {i j : Nat} {F : List Value} (h : Dg o w wr g B rest i j F) {k : Nat} (hk : k < B.length) : (∃ v, wr.cell? ⟨g, k, none⟩ = some v) ∧ wr.frozen? ⟨g, k, none⟩ = false := by
  have hl := h.len
  refine ⟨⟨F[k]'(by omega), h.bx.cell ?_⟩, h.bx.free _⟩
  rw [List.getElem?_toArray, List.getElem?_append_left (by omega), List.getElem?_eq_getElem]
theorem idxNoneG {o : Option Nat} {B : List Nat} {r : Ending} (hall : ∀ x ∈ B, isG o x = false) (h : (r = .returned (.int .i64 (-1)) ∧ ∀ x ∈ B, isG o x = false) ∨ ∃ i : Nat, ∃ hi : i < B.length, r = .returned (.int .i64 (i : Int)) ∧ isG o B[i] = true ∧ ∀ x ∈ B.take i, isG o x = false) : r = .returned (.int .i64 (-1)) := by
  rcases h with h | ⟨i, hi, _, h2, _⟩
  · exact h.1
  · have := hall _ (List.getElem_mem hi)
    rw [this] at h2; cases h2
theorem idxSomeG {o : Option Nat} {B : List Nat} {r : Ending} (hall : (B.all fun x => !isG o x) = false) (h : (r = .returned (.int .i64 (-1)) ∧ ∀ x ∈ B, isG o x = false) ∨ ∃ i : Nat, ∃ hi : i < B.length, r = .returned (.int .i64 (i : Int)) ∧ isG o B[i] = true ∧ ∀ x ∈ B.take i, isG o x = false) : ∃ i : Nat, ∃ hi : i < B.length, r = .returned (.int .i64 (i : Int)) ∧ isG o B[i] = true ∧ ∀ x ∈ B.take i, isG o x = false := by
  rcases h with h | h
  · have : (B.all fun x => !isG o x) = true := List.all_eq_true.2 fun x hx => by rw [h.2 x hx]; rfl
    rw [this] at hall; cases hall
  · exact h
/-- 'clear(s)' of pointers -/
theorem run_clearG (w : World) (g : Nat) (A B rest : List Value) (c ty : Nat) (hB : 0 < B.length) (h : Bx w g (A ++ B ++ rest).toArray 54) :
    ∃ w2, (Builtin.clear_ #[89] ty #[.slice (some ⟨g, A.length, none⟩) B.length c]).run Tryz.prog w = .ok (.tuple #[]) w2 ∧ Bx w2 g (A ++ List.replicate B.length (Value.pointer none) ++ rest).toArray 54 ∧ w.grownBy w2 (some g) := by
  refine ⟨w.setCells g A.length (List.replicate B.length (Value.pointer none)), ?_, ?_, grown_setCells g _ _ w⟩
  · have hst := run_storeCells_cells (P := Tryz.prog) g A.length (List.replicate B.length (Value.pointer none)) 0 w (fun j hj => by
      rw [List.length_replicate] at hj
      have hh : (A ++ B ++ rest).toArray[A.length + 0 + j]? = some ((A ++ B ++ rest)[A.length + 0 + j]'(by simp; omega)) := by
        rw [List.getElem?_toArray, List.getElem?_eq_getElem]
      rw [h.cell hh]; rfl) (fun j hj => h.free _) (fun u hu => by rw [List.eq_of_mem_replicate hu]; rfl)
    simp only [Nat.add_zero] at hst
    obtain ⟨m, hm⟩ : ∃ m, B.length = m + 1 := ⟨B.length - 1, by omega⟩
    rw [hm] at hst ⊢
    have hz : ∀ n, (Builtin.zeroCells (Value.pointer none).cells n).toList = List.replicate n (Value.pointer none) := by
      intro n
      apply List.ext_getElem?
      intro i
      by_cases hi : i < n
      · simp [Builtin.zeroCells, Value.cells, List.getElem?_replicate, hi, Nat.mod_one]
      · simp [Builtin.zeroCells, Value.cells, List.getElem?_replicate, hi]
    simp [Builtin.clear_, run_underlying Tryz.underlying89, peZero, hz, hst]
  · exact bx_setCells (List.replicate B.length (Value.pointer none)) A B rest (by rw [List.length_replicate]) w h
set_option maxRecDepth 100000 in
set_option maxHeartbeats 4000000 in
/-- slices.DeleteFunc -/
theorem deleteG_any (o : Option Nat) (G : Nat) (B : List Nat) (rest : List Value) (g cap : Nat) (w : World) (h : Bx w g (B.map peV ++ rest).toArray 54) (hc : B.length ≤ cap) (hB : B.length ≤ 1048576) (hG : w.cell? ⟨G, 0, none⟩ = some (goV o)) (hne : G ≠ g) (hE : ∀ b ∈ B, isE w b) (ho : ∀ c, o = some c → isE w c) :
    Calls Tryz.prog 43 #[.slice (some ⟨g, 0, none⟩) B.length cap, .func (Fn.func 44) #[] #[cvG G]] w fun r w' => r = .returned (.slice (some ⟨g, 0, none⟩) (kG o B).length cap) ∧ (∃ rest', rest'.length + (kG o B).length = rest.length + B.length ∧ Bx w' g ((kG o B).map peV ++ rest').toArray 54) ∧ w.grownBy w' (some g) := by
  have HR := hide' h
  have hat : PtAt w (some ⟨g, 0, none⟩) B := fun k hk => ⟨g, rfl, h.cell (by rw [List.getElem?_toArray, List.getElem?_append_left (by simpa using hk), List.getElem?_map, List.getElem?_eq_getElem hk]; rfl)⟩
  have HI := hide' (indexG_any B o G (some ⟨g, 0, none⟩) cap w (by omega) hat hG hE ho)
  have hk : ∀ (wr : World), w.grownBy wr (some g) → ∀ b, isE w b → isE wr b := fun wr hg b ⟨ca, hb⟩ => ⟨ca, hb.grown hg (fun e => by
    injection e with e
    subst e
    unfold Bx at hb h
    rw [hb] at h
    injection h with h
    injection h with _ h _
    exact absurd h (by decide))⟩
  have HC := hide' (fun (wr : World) (hg : w.grownBy wr (some g)) (b : Nat) (hb : b ∈ B) => forget1_any o b G wr (by
    have := hg.block G (lt_cellC hG) (fun e => hne (by injection e))
    rw [← hG]; simp only [World.cell?, this]) (hk wr hg b (hE b hb)) (fun c hc => hk wr hg c (ho c hc)))
  clear h hat hG hE ho hk
  unfold cvG at *
  rcases hidx : (B.all fun x => !isG o x) with _ | _
  · -- something goes
    have HS := hide' hidx
    clear hidx
    have HW := hide' (fun (W : World) (i : Nat) (h1 : i ≤ B.length) (h2 : i < cap) => runG_from g B.length cap i h1 hc h2 W)
    have HV := hide' (fun (W : World) (i : Nat) (h1 : i ≤ cap) => runG_upto g B.length cap i h1 W)
    go_enter Tryz.func43, Tryz.ntmps43
    go_wp2_with (go_at_call 62; refine HI.out.mono ?_; rintro r w1 ⟨hr, hw1⟩; obtain rfl := hw1; obtain ⟨i0, hi0, rfl, hp0, hq0⟩ := (idxSomeG HS.out hr); have HP0 := hide' hp0; have HQ0 := hide' hq0; have hne : ((i0 : Int) == -1) = false := (by rw [beq_eq_false_iff_ne]; omega); clear hr hp0 hq0)
    go_loopw [5, 6] (fun iv jv wr => ∃ (i j : Nat) (F : List Value), iv = .int .i64 (i : Int) ∧ jv = .int .i64 (j : Int) ∧ i < j ∧ j ≤ B.length ∧ Hid (Dg o w1 wr g B rest i j F)) (fun _ jv _ => B.length - (intOf jv).toNat)
    case atStart =>
      refine ⟨i0, i0 + 1, B.map peV, rfl, by go_num, by omega, by omega, ⟨HR.out, List.length_map _, ?_, by rw [List.map_drop], grown_refl _ _⟩⟩
      rw [List.take_succ_eq_append_getElem hi0, kG_app, kG_all HQ0.out]
      have : kG o [B[i0]] = [] := by simp [kG, HP0.out]
      rw [this, List.append_nil, List.map_take]
    case round =>
      obtain ⟨i, j, F, rfl, rfl, hij, hj, HD⟩ := hrel
      by_cases hlt : j < B.length
      · have x0 := HD.out.at hlt
        obtain ⟨⟨y, y0⟩, f0⟩ := HD.out.there (k := i) (by omega)
        obtain ⟨x, hx⟩ : ∃ x, B[j] = x := ⟨_, rfl⟩
        have HX := hide' hx
        have HC1 := hide' (HC.out wr HD.out.gr x (hx ▸ List.getElem_mem hlt))
        rw [hx] at x0
        clear hx
        cases hp : isG o x with
        | true =>
          have HP := hide' hp
          go_wp2_with (go_at_call 44; refine HC1.out.mono ?_; rintro r w2 ⟨rfl, rfl⟩; rw [hp])
          go_roundw
          case rel => exact ⟨i, j + 1, F, rfl, by go_num, by omega, by omega, HD.out.skip hlt (by rw [HX.out]; exact HP.out)⟩
          case measure => simp [intOf]; omega
        | false =>
          have HP := hide' hp
          have hk := HD.out.keep hlt hij (by rw [HX.out]; exact HP.out)
          rw [HX.out] at hk
          have HK := hide' hk
          clear hk
          unfold peV at *
          go_wp2_with (go_at_call 44; refine HC1.out.mono ?_; rintro r w2 ⟨rfl, rfl⟩; rw [hp])
          go_roundw
          case rel => exact ⟨i + 1, j + 1, _, by go_num, by go_num, by omega, by omega, HK.out⟩
          case measure => simp [intOf]; omega
      · have hjj : j = B.length := by omega
        have hl := HD.out.len
        have htk : F.take i = (kG o B).map peV := by rw [HD.out.took, hjj, List.take_length]
        have hil : i = (kG o B).length := by
          have := congrArg List.length htk
          rw [List.length_take, List.length_map] at this
          omega
        have hib : i < B.length := by omega
        have hbc : i < cap := by omega
        have hsl := HW.out wr i (by omega) hbc
        have hrb : Bx wr g (F.take i ++ F.drop i ++ rest).toArray 54 := by rw [List.take_append_drop]; exact HD.out.bx
        have hdl : (F.drop i).length = B.length - i := by rw [List.length_drop, hl]
        have hal : (F.take i).length = i := by rw [List.length_take]; omega
        obtain ⟨w2, hcl, hr2, hg2⟩ := run_clearG wr g (F.take i) (F.drop i) rest (cap - i) 0 (by omega) hrb
        rw [hal, hdl] at hcl
        have hup := HV.out w2 i (by omega)
        have HR2 := hide' hr2
        have HG2 := hide' (grown_trans HD.out.gr hg2)
        have HTK := hide' htk
        have HIL := hide' hil
        have HL := hide' hl
        have HDL := hide' hdl
        clear hr2 hg2 htk hil hl hjj hrb hdl hal
        go_wp2_with fail
        go_ret
        have hr2 := HR2.out
        rw [HTK.out, List.append_assoc] at hr2
        refine ⟨by rw [← HIL.out]; rfl, ⟨_, ?_, hr2⟩, HG2.out⟩
        rw [List.length_append, List.length_replicate, HDL.out, ← HIL.out]
        omega
  · have hall : ∀ x ∈ B, isG o x = false := fun x hx => by
      have := List.all_eq_true.1 hidx x hx
      simpa using this
    have HK := hide' (kG_all hall)
    have HAll := hide' hall
    clear hidx hall
    go_enter Tryz.func43, Tryz.ntmps43
    go_wp2_with (go_at_call 62; refine HI.out.mono ?_; rintro r w1 ⟨hr, hw1⟩; obtain rfl := hw1; obtain rfl : r = .returned (.int .i64 (-1)) := (idxNoneG HAll.out hr); clear hr)
    go_ret
    refine ⟨by rw [HK.out]; rfl, ⟨rest, by rw [HK.out], by rw [HK.out]; exact HR.out⟩, grown_refl _ _⟩
set_option maxRecDepth 100000 in
/-- slices.DeleteFunc of nothing -/
theorem deleteG_nil (G : Nat) (w : World) :
    Calls Tryz.prog 43 #[.slice none 0 0, .func (Fn.func 44) #[] #[cvG G]] w fun r w' => r = .returned (.slice none 0 0) ∧ w' = w := by
  unfold cvG
  have HI : Hid (∀ V : World, Calls Tryz.prog 62 #[.slice none 0 0, .func (Fn.func 44) #[] #[.pointer (some ⟨G, 0, none⟩)]] V fun r w' => r = .returned (.int .i64 (-1)) ∧ w' = V) := fun V => by
    go_enter Tryz.func62, Tryz.ntmps62
    go_wp2
    refine wp_loop_rounds 1 ?_
    rw [rounds_succ]; go_wp2
    go_ret
    exact ⟨rfl, rfl⟩
  go_enter Tryz.func43, Tryz.ntmps43
  go_wp2_with (go_at_call 62; refine (HI.out _).mono ?_; rintro r w1 ⟨rfl, rfl⟩)
  go_ret
  exact ⟨rfl, rfl⟩
end Go.Proofs.YtgekfhghambacaaGreat

/-
  Chapter 12: what goes out of a cache, plainly. (The verifier's own text.)
-/
namespace Go.Proofs.YtgekfhghambacaaGreat
set_option linter.unusedVariables false
set_option linter.unusedSimpArgs false
open Go.RowKit Go.Shelf Go.Maps

theorem nodup_inj {α β : Type} {f : α → β} {S : List α} (h : (S.map f).Nodup) {a b : α} (ha : a ∈ S) (hb : b ∈ S) (e : f a = f b) : a = b := by
  induction S with
  | nil => cases ha
  | cons c S ih =>
    rw [List.map_cons, List.nodup_cons] at h
    rcases List.mem_cons.1 ha with h1 | h1
    · rcases List.mem_cons.1 hb with h2 | h2
      · rw [h1, h2]
      · exact absurd (List.mem_map.2 ⟨b, h2, by rw [← e, h1]⟩) h.1
    · rcases List.mem_cons.1 hb with h2 | h2
      · exact absurd (List.mem_map.2 ⟨a, h1, by rw [e, h2]⟩) h.1
      · exact ih h.2 h1 h2
theorem goV_at (x : Ky) (S : List Ce) : peAt x S = goV ((atK Ce.key x S).map Ce.blk) := by
  unfold peAt goV
  cases atK Ce.key x S <;> rfl
theorem kG_prK {a : ByteArray} {x : Ky} {S : List Ce} (hb : (S.map Ce.blk).Nodup) (hk : (S.map Ce.key).Nodup) : kG ((atK Ce.key x S).map Ce.blk) ((prK a S).map Ce.blk) = (prK a (outK Ce.key x S)).map Ce.blk := by
  rw [prK_out]
  unfold kG outK
  rw [List.filter_map]
  congr 1
  apply List.filter_congr
  intro e he
  have heS : e ∈ S := (mem_prK.1 he).1
  simp only [Function.comp, isG]
  congr 1
  cases hc : atK Ce.key x S with
  | none =>
    have := atK_none.1 hc e heS
    simp [this]
  | some c =>
    obtain ⟨h1, rfl⟩ := atK_some hc
    by_cases e1 : e.key = c.key
    · obtain rfl := nodup_inj hk heS h1 e1
      simp
    · have : ¬ e.blk = c.blk := fun h => e1 (by rw [nodup_inj hb heS h1 h])
      simp [e1, this]
section
variable {w w1 w2 : World} {L M P base : Nat} {most came : Int} {S : List Ce} {Q Q' : List Qe} {x : Ky}
theorem outK_len_le (x : Ky) (S : List Ce) : (outK Ce.key x S).length ≤ S.length := List.length_filter_le _ _
/-- an entry that is none of an apex's goes -/
theorem Cac.drop0 (h : Cac w L M P base most came S Q) (hx : x.1 ≠ 3 ∨ atK Qe.a x.2.2.2 Q = none) : Cac w L M P base most came (outK Ce.key x S) Q := by
  refine ⟨h.bx, h.pm, fun e he => h.en e (mem_outK.1 he).1, fun q hq => ?_, fun e he => h.all e (mem_outK.1 he).1, h.gs, h.blk.sublist (outK_sub.map _), outK_nodup h.keys, fun e he => h.good e (mem_outK.1 he).1, h.bL, h.bM, h.bP, h.mp, Nat.le_trans (outK_len_le _ _) h.len, h.hw⟩
  have : prK q.a (outK Ce.key x S) = prK q.a S := prK_out_other (hx.imp id fun h0 e => atK_none.1 h0 q hq e.symm)
  rw [this]
  exact h.rows q hq
theorem row_mk {g n c : Nat} {a : ByteArray} {xs rest : List Value} (hb : Bx w g (xs ++ rest).toArray 54) (hg : base ≤ g) (hn : xs.length = n) (hc : rest.length + n = c) (hm : c ≤ maxLen) : w.ownsRow base 54 1 (qeV ⟨a, g, n, c⟩) n xs := by
  refine ⟨by omega, .inr ⟨g, c, _, rfl, hg, hb, by omega, hm, ?_, ?_⟩⟩
  · simp; omega
  · simp [← hn]
theorem row_cur {q : Qe} {n : Nat} {xs : List Value} (h : w.ownsRow base 54 1 (qeV q) n xs) : ∃ rest : List Value, Bx w q.g (xs ++ rest).toArray 54 ∧ rest.length + n = q.c ∧ q.c ≤ maxLen ∧ xs.length = n := by
  obtain ⟨hl, (⟨h1, _⟩ | ⟨g, cap, cur, h1, _, hg, hn, hcap, hsz, ht⟩)⟩ := h
  · cases h1
  · unfold qeV at h1
    injection h1 with h1 h2 h3
    injection h1 with h1
    injection h1 with h1
    subst h1 h3
    have e : cur.toList = xs ++ cur.toList.drop n := by
      rw [← ht, Nat.mul_one]
      exact (List.take_append_drop _ _).symm
    refine ⟨cur.toList.drop n, ?_, ?_, hcap, by omega⟩
    · unfold Bx
      rw [hg, ← e]
    · rw [List.length_drop, Array.length_toList]
      omega
/-- an apex's entry goes -/
theorem Cac.drop1 (h : Cac w L M P base most came S Q) {q : Qe} {rest : List Value} (hq : atK Qe.a x.2.2.2 Q = some q) (g1 : w.grownBy w1 (some q.g)) (b1 : Bx w1 q.g ((peR (prK x.2.2.2 (outK Ce.key x S))) ++ rest).toArray 54)
    (hr : rest.length + (prK x.2.2.2 (outK Ce.key x S)).length = q.c) (hm : ∃ es c, w.heap[P]? = some (.map es c)) (g2 : w1.grownBy w2 (some P)) (p2 : Pmap w2 P Q')
    (hQ : (prK x.2.2.2 (outK Ce.key x S) = [] ∧ Q' = outK Qe.a x.2.2.2 Q) ∨ (prK x.2.2.2 (outK Ce.key x S) ≠ [] ∧ Q' = outK Qe.a x.2.2.2 Q ++ [⟨x.2.2.2, q.g, (prK x.2.2.2 (outK Ce.key x S)).length, q.c⟩])) : Cac w2 L M P base most came (outK Ce.key x S) Q' := by
  obtain ⟨hqm, hqa⟩ := atK_some hq
  obtain ⟨cur, hcur⟩ := row_block (h.rows q hqm).2.2.2
  obtain ⟨r0, hr1, hr2, hr3, -⟩ := row_cur (h.rows q hqm).2.2.2
  obtain ⟨es, cl, hmP⟩ := hm
  have hLP : P ≠ L := fun e => by
    subst e
    have := h.bx
    unfold Bx at this
    rw [this] at hmP; cases hmP
  have hLq : q.g ≠ L := fun e => by
    have := h.bx
    unfold Bx at this
    rw [← e, hcur] at this
    injection this with this
    injection this with _ this _
    exact absurd this (by decide)
  have hqP : q.g ≠ P := fun e => by rw [e, hmP] at hcur; cases hcur
  have hP1 : ∃ es c, w1.heap[P]? = some (.map es c) := ⟨es, cl, (g1.block P (Array.getElem?_eq_some_iff.1 hmP).1 (fun e => hqP (by injection e with e; exact e.symm))).trans hmP⟩
  have f1 : Fk (FC M P) 0 w w1 := Fk.one g1 hcur (Or.inl rfl) (Nat.zero_le _)
  have f2 : Fk (FC M P) 0 w1 w2 := by obtain ⟨a, b, c⟩ := hP1; exact Fk.one g2 c (.inr rfl) (Nat.zero_le _)
  have hkeep : ∀ k, k < w.heap.size → k ≠ q.g → k ≠ P → w2.heap[k]? = w.heap[k]? := fun k hk h1 h2 =>
    (g2.block k (Nat.lt_of_lt_of_le hk g1.size) (fun e => h2 (by injection e))).trans (g1.block k hk (fun e => h1 (by injection e)))
  have hold : ∀ q1 ∈ outK Qe.a x.2.2.2 Q, base ≤ q1.g ∧ q1.n = (prK q1.a (outK Ce.key x S)).length ∧ 0 < q1.n ∧ w2.ownsRow base 54 1 (qeV q1) q1.n (peR (prK q1.a (outK Ce.key x S))) := fun q1 hq1 => by
    obtain ⟨hq1m, hq1a⟩ := mem_outK.1 hq1
    have e1 : prK q1.a (outK Ce.key x S) = prK q1.a S := prK_out_other (.inr fun e => hq1a e.symm)
    rw [e1]
    obtain ⟨a1, a2, a3, a4⟩ := h.rows q1 hq1m
    obtain ⟨cur1, hc1⟩ := row_block a4
    refine ⟨a1, a2, a3, row_keptQ a4 (hkeep _ (Array.getElem?_eq_some_iff.1 hc1).1 (fun e => ?_) (fun e => ?_))⟩
    · exact hq1a (by rw [nodup_inj h.gs hq1m hqm e, hqa])
    · rw [e, hmP] at hc1; cases hc1
  have hrow : prK x.2.2.2 (outK Ce.key x S) ≠ [] → w2.ownsRow base 54 1 (qeV ⟨x.2.2.2, q.g, (prK x.2.2.2 (outK Ce.key x S)).length, q.c⟩) (prK x.2.2.2 (outK Ce.key x S)).length (peR (prK x.2.2.2 (outK Ce.key x S))) := fun _ =>
    row_mk (b1.grown g2 (fun e => hqP (by injection e with e; exact e.symm))) (h.rows q hqm).1 (peR_len _) hr hr3
  refine ⟨(h.bx.grown g1 (fun e => hLq (by injection e))).grown g2 (fun e => hLP (by injection e)), p2, fun e he => ?_, fun q1 hq1 => ?_, fun e he h3 => ?_, ?_, h.blk.sublist (outK_sub.map _), outK_nodup h.keys, fun e he => h.good e (mem_outK.1 he).1, h.bL, h.bM, h.bP, h.mp, Nat.le_trans (outK_len_le _ _) h.len, Nat.le_trans h.hw (Nat.le_trans g1.size g2.size)⟩
  · obtain ⟨a, b, c⟩ := h.en e (mem_outK.1 he).1
    have hnk : ¬ FC M P e.blk (.cells (ceA e) 63 (0, 0)) := fun k => k.elim (fun e => absurd e (by decide)) (fun e => absurd e (by decide))
    exact ⟨(a.fk f1 hnk).fk f2 hnk, (b.fk f1).fk f2, c⟩
  · rcases hQ with ⟨h0, rfl⟩ | ⟨h0, rfl⟩
    · exact hold q1 hq1
    · rcases List.mem_append.1 hq1 with h1 | h1
      · exact hold q1 h1
      · obtain rfl := List.mem_singleton.1 h1
        exact ⟨(h.rows q hqm).1, rfl, List.length_pos_iff.2 h0, hrow h0⟩
  · obtain ⟨q1, hq1, hq2⟩ := h.all e (mem_outK.1 he).1 h3
    by_cases e1 : q1.a = x.2.2.2
    · have hmem : e ∈ prK x.2.2.2 (outK Ce.key x S) := mem_prK.2 ⟨he, h3, by rw [← hq2, e1]⟩
      rcases hQ with ⟨h0, rfl⟩ | ⟨h0, rfl⟩
      · rw [h0] at hmem; cases hmem
      · exact ⟨_, List.mem_append_right _ (List.mem_singleton.2 rfl), by rw [← hq2, e1]⟩
    · have hmem : q1 ∈ outK Qe.a x.2.2.2 Q := mem_outK.2 ⟨hq1, e1⟩
      rcases hQ with ⟨h0, rfl⟩ | ⟨h0, rfl⟩
      · exact ⟨q1, hmem, hq2⟩
      · exact ⟨q1, List.mem_append_left _ hmem, hq2⟩
  · rcases hQ with ⟨h0, rfl⟩ | ⟨h0, rfl⟩
    · exact h.gs.sublist (outK_sub.map _)
    · rw [List.map_append, List.nodup_append]
      refine ⟨h.gs.sublist (outK_sub.map _), by simp, fun u hu v hv => ?_⟩
      obtain ⟨q1, hq1, rfl⟩ := List.mem_map.1 hu
      obtain ⟨h1, h2⟩ := mem_outK.1 hq1
      have hv : v = q.g := by simpa using hv
      rw [hv]
      exact fun e => h2 (by rw [nodup_inj h.gs h1 hqm e, hqa])
end
theorem len_sub {α : Type} [DecidableEq α] : ∀ (l k : List α), l.Nodup → (∀ x ∈ l, x ∈ k) → l.length ≤ k.length
  | [], k, _, _ => Nat.zero_le _
  | a :: l, k, h, hs => by
    obtain ⟨h1, h2⟩ := List.nodup_cons.1 h
    have ha := hs a List.mem_cons_self
    have := len_sub l (k.erase a) h2 (fun x hx => (List.mem_erase_of_ne (fun (e : x = a) => h1 (by rw [← e]; exact hx))).2 (hs x (List.mem_cons_of_mem _ hx)))
    rw [List.length_erase_of_mem ha] at this
    have hk : 0 < k.length := List.length_pos_of_mem ha
    simp only [List.length_cons]
    omega
section
variable {w w1 w2 : World} {L M P base : Nat} {most came : Int} {S : List Ce} {Q Q' : List Qe} {x : Ky}
theorem Cac.lenQ (h : Cac w L M P base most came S Q) : Q.length ≤ S.length := by
  have h1 := len_sub (Q.map Qe.a) (S.map fun e => e.key.2.2.2) h.pm.nodup (fun a ha => by
    obtain ⟨q, hq, rfl⟩ := List.mem_map.1 ha
    obtain ⟨_, h2, h3, _⟩ := h.rows q hq
    have : prK q.a S ≠ [] := fun e => by rw [e] at h2; simp at h2; omega
    obtain ⟨e, he⟩ := List.exists_mem_of_ne_nil _ this
    obtain ⟨h4, -, h5⟩ := mem_prK.1 he
    exact List.mem_map.2 ⟨e, h4, h5⟩)
  simpa using h1
/-- the map of proofs is no other block -/
theorem Cac.mapP (h : Cac w L M P base most came S Q) (hg : w.grownBy w1 (some P)) (hp : Pmap w1 P Q) : Cac w1 L M P base most came S Q := by
  obtain ⟨es, cl, hm⟩ := h.pm.isMap
  have f : Fk (FC M P) 0 w w1 := Fk.one hg hm (.inr rfl) (Nat.zero_le _)
  have hLP : P ≠ L := fun e => by
    subst e
    have := h.bx
    unfold Bx at this
    rw [this] at hm; cases hm
  refine ⟨h.bx.grown hg (fun e => hLP (by injection e)), hp, fun e he => ?_, fun q hq => ?_, h.all, h.gs, h.blk, h.keys, h.good, h.bL, h.bM, h.bP, h.mp, h.len, Nat.le_trans h.hw hg.size⟩
  · obtain ⟨a, b, c⟩ := h.en e he
    exact ⟨a.fk f (fun k => k.elim (fun e => absurd e (by decide)) (fun e => absurd e (by decide))), b.fk f, c⟩
  · obtain ⟨h1, h2, h3, h4⟩ := h.rows q hq
    obtain ⟨cur, hc⟩ := row_block h4
    refine ⟨h1, h2, h3, row_keptQ h4 (hg.block _ (Array.getElem?_eq_some_iff.1 hc).1 (fun e => ?_))⟩
    injection e with e
    rw [e, hm] at hc; cases hc
/-- blocks of other kinds -/
theorem Cac.neLM (h : Cac w L M P base most came S Q) (hm : ∃ es c, w.heap[M]? = some (.map es c)) : L ≠ M ∧ L ≠ P ∧ (∀ q ∈ Q, L ≠ q.g ∧ P ≠ q.g ∧ M ≠ q.g) := by
  obtain ⟨es, c, hm⟩ := hm
  obtain ⟨es2, c2, hp⟩ := h.pm.isMap
  have hb := h.bx
  unfold Bx at hb
  refine ⟨fun e => ?_, fun e => ?_, fun q hq => ?_⟩
  · subst e; rw [hb] at hm; cases hm
  · subst e; rw [hb] at hp; cases hp
  · obtain ⟨cur, hc⟩ := row_block (h.rows q hq).2.2.2
    refine ⟨fun e => ?_, fun e => ?_, fun e => ?_⟩
    · rw [e, hc] at hb
      injection hb with hb
      injection hb with _ hb _
      exact absurd hb (by decide)
    · rw [e, hc] at hp; cases hp
    · rw [e, hc] at hm; cases hm
theorem Cac.isE (h : Cac w L M P base most came S Q) {e : Ce} (he : e ∈ S) : isE w e.blk := ⟨_, (h.en e he).1⟩
end
end Go.Proofs.YtgekfhghambacaaGreat
