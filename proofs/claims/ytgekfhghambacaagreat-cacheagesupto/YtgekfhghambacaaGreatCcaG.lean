import Derived.Test.YtgekfhghambacaaGreatCc8G
/-
  Chapter 12: (*cache.Cache).first, Size: ranges over a map. (The verifier's own text.)
-/
namespace Go.Proofs.YtgekfhghambacaaGreat
set_option linter.unusedVariables false
set_option linter.unusedSimpArgs false
open Go.RowKit Go.Shelf Go.Maps Go.Proofs.YtgekfhghambacaaGreat.Nm

/-- is an entry pushed out ahead of another? -/
def aheadB (e f : Ce) : Bool := if e.fin = f.fin then decide (e.came < f.came) else decide (e.fin < f.fin)
theorem ahead_not (e f g : Ce) (h : aheadB e f = true) (k : aheadB g f = false) : aheadB g e = false := by
  unfold aheadB at *
  split at h <;> split at k <;> split <;> simp at h k ⊢ <;> omega
theorem ahead_self (e : Ce) : aheadB e e = false := by unfold aheadB; simp
theorem ky_same {x y : Ky} (hx : kyG x) (hy : kyG y) : (kyL x).sameKey (kyL y) = decide (x = y) := by
  by_cases e : x = y
  · subst e
    rw [decide_eq_true rfl]
    unfold kyL
    simp [Lit.sameKey]
  · rw [decide_eq_false e]
    exact sameKey_ne (fun h => e (kyL_inj _ _ hx hy h))
theorem Emap.good {w : World} {M : Nat} {S : List Ce} (h : Emap w M S) : ∀ e ∈ S, kyG e.key := by obtain ⟨D, n, h1, h2⟩ := h; exact h2.good
theorem Emap.range {w : World} {M : Nat} {S : List Ce} (h : Emap w M S) :
    ∃ w' left, (Instr.range 47 (.map (some M))).run Tryz.prog w = .ok (.pointer (some ⟨w.heap.size, 0, none⟩)) w' ∧ Erng w' M w.heap.size left S.length S ∧ (∀ x ∈ S, left (kyL x.key) = true) ∧ w.grownBy w' none ∧ w'.heap.size = w.heap.size + 1 :=
  Lmap.range h kyKeyed Tryz.underlying47
/-- the first of those that were seen -/
def firstI (S : List Ce) (left : Lit → Bool) (o : Option Ce) : Prop := match o with
  | none => ∀ e ∈ S, left (kyL e.key) = true
  | some e => e ∈ S ∧ ∀ f ∈ S, left (kyL f.key) = false → aheadB f e = false
theorem firstI_step {S : List Ce} {left : Lit → Bool} {o : Option Ce} {a : Ce} (hg : ∀ e ∈ S, kyG e.key) (hn : (S.map Ce.key).Nodup) (ha : a ∈ S) (h : firstI S left o) (hp : ∀ e, o = some e → aheadB a e = true) : firstI S (fun x => left x && !x.sameKey (kyL a.key)) (some a) := by
  refine ⟨ha, fun f hf hl => ?_⟩
  have hl : (left (kyL f.key) && !(kyL f.key).sameKey (kyL a.key)) = false := hl
  rw [ky_same (hg f hf) (hg a ha)] at hl
  by_cases e1 : f.key = a.key
  · rw [nodup_inj hn hf ha e1]; exact ahead_self a
  · rw [decide_eq_false e1] at hl
    have hl : left (kyL f.key) = false := by simpa using hl
    cases o with
    | none => rw [h f hf] at hl; cases hl
    | some e => exact ahead_not a e f (hp e rfl) (h.2 f hf hl)
theorem firstI_keep {S : List Ce} {left : Lit → Bool} {e a : Ce} (hg : ∀ e ∈ S, kyG e.key) (hn : (S.map Ce.key).Nodup) (ha : a ∈ S) (h : firstI S left (some e)) (hp : aheadB a e = false) : firstI S (fun x => left x && !x.sameKey (kyL a.key)) (some e) := by
  refine ⟨h.1, fun f hf hl => ?_⟩
  have hl : (left (kyL f.key) && !(kyL f.key).sameKey (kyL a.key)) = false := hl
  rw [ky_same (hg f hf) (hg a ha)] at hl
  by_cases e1 : f.key = a.key
  · rw [nodup_inj hn hf ha e1]; exact hp
  · rw [decide_eq_false e1] at hl
    exact h.2 f hf (by simpa using hl)
theorem Bx.bel {w w' : World} {R n : Nat} {cs : Array Value} {T : TypeId} (h : Bx w R cs T) (hb : Below w.heap.size w w') : Bx w' R cs T := h.below hb h.lt
set_option maxRecDepth 100000 in
set_option maxHeartbeats 4000000 in
/-- (*cache.Cache).first -/
theorem first_any {w : World} {L M P base : Nat} {most came : Int} {S : List Ce} {Q : List Qe} (h : Cac w L M P base most came S Q) (hM : Emap w M S) (hne : S ≠ []) :
    Calls Tryz.prog 47 #[.pointer (some ⟨L, 0, none⟩)] w fun r w' => (∃ e, e ∈ S ∧ (∀ f ∈ S, aheadB f e = false) ∧ r = .returned (kyV e.key)) ∧ Below w.heap.size w w' := by
  obtain ⟨wa, hwa⟩ : ∃ wa, w.alloc (.cells #[.int .i64 0, .string ⟨#[]⟩, .int .i64 0, .string ⟨#[]⟩] 57) = wa := ⟨_, rfl⟩
  have HBa : Hid (Below w.heap.size w wa) := hwa ▸ (Below.refl _ w).alloc (Nat.le_refl _) _
  have HKa : Hid (Bx wa w.heap.size #[.int .i64 0, .string ⟨#[]⟩, .int .i64 0, .string ⟨#[]⟩] 57) := hwa ▸ World.alloc_heap_new w _
  have HCa := hide' (h.below HBa.out)
  have HMa : Hid (Emap wa M S) := Lmap.kept hM (grown_below HBa.out none) (by simp)
  have HG := hide' hM.good
  have HN := hide' hM.nodup
  have HNe := hide' hne
  obtain ⟨w0, left0, hrun0, hrg0, hall0, hg0, hs0⟩ := HMa.out.range
  have HR0 := hide' hrg0
  have HA0 := hide' hall0
  have HB0 : Hid (Below w.heap.size w w0) := HBa.out.grown hg0 HBa.out.size (fun k e => by cases e)
  have HC0 := hide' (HCa.out.idle hg0)
  have HK0 := hide' (HKa.out.grown hg0 (by simp))
  have c2 : wa.cell? ⟨L, 2, none⟩ = some (.map (some M)) := HCa.out.bx.cell rfl
  clear h hM hne hrg0 hall0 hg0 hs0
  go_enter Tryz.func47, Tryz.ntmps47
  go_wp2_with fail
  go_loopw [3] (fun v wr => ∃ (left : Lit → Bool) (cnt : Nat) (o : Option Ce), v = goV (o.map Ce.blk) ∧ Hid (Erng wr M wa.heap.size left cnt S) ∧ Hid (firstI S left o) ∧ Hid (Cac wr L M P base most came S Q) ∧ Hid (Bx wr w.heap.size #[.int .i64 0, .string ⟨#[]⟩, .int .i64 0, .string ⟨#[]⟩] 57) ∧ Hid (Below w.heap.size w wr)) (fun _ wr => wr.rangeLeft M wa.heap.size)
  case atStart => exact ⟨left0, _, none, rfl, HR0.out, HA0.out, HC0.out, HK0.out, HB0.out⟩
  case round =>
    obtain ⟨left, cnt, o, rfl, HR, HF, HC, HK, HB⟩ := hrel
    rcases HR.out.next 0 with ⟨hc0, hl0, hrun⟩ | ⟨a, ha, w1, cnt1, hla, hrun, hr1, hlt, hg1, hs1, hen⟩
    · have HL0 := hide' hl0
      obtain ⟨e, rfl⟩ : ∃ e, o = some e := by
        cases o with
        | some e => exact ⟨e, rfl⟩
        | none =>
          obtain ⟨x, hx⟩ := List.exists_mem_of_ne_nil _ HNe.out
          have := HF.out x hx
          rw [hl0] at this; cases this
      have he : e ∈ S := HF.out.1
      have hb := (HC.out.en e he).1
      have x0 : wr.cell? ⟨e.blk, 0, none⟩ = some (.int .i64 e.key.1) := hb.cell rfl
      have x1 : wr.cell? ⟨e.blk, 1, none⟩ = some (.string e.key.2.1) := hb.cell rfl
      have x2 : wr.cell? ⟨e.blk, 2, none⟩ = some (.int .i64 e.key.2.2.1) := hb.cell rfl
      have x3 : wr.cell? ⟨e.blk, 3, none⟩ = some (.string e.key.2.2.2) := hb.cell rfl
      obtain ⟨z0, z1, z2, z3, f0, f1, f2, f3⟩ := bx4C HK.out
      have HFe : Hid (∀ f ∈ S, aheadB f e = false) := fun f hf => HF.out.2 f hf (HL0.out _)
      have HE := hide' he
      clear hl0 hc0 hb he
      obtain ⟨B, hB⟩ : ∃ B, e.blk = B := ⟨_, rfl⟩
      rw [hB] at x0 x1 x2 x3
      unfold goV
      simp only [Option.map_some, hB]
      clear hB
      have hkv : kyV e.key = .agg #[.int .i64 e.key.1, .string e.key.2.1, .int .i64 e.key.2.2.1, .string e.key.2.2.2] := rfl
      have HKV := hide' hkv
      clear hkv
      generalize e.key.1 = k0 at *
      generalize e.key.2.1 = k1 at *
      generalize e.key.2.2.1 = k2 at *
      generalize e.key.2.2.2 = k3 at *
      go_wp2_with fail
      have hb := bx4C_set HK.out (.int .i64 k0) (.string k1) (.int .i64 k2) (.string k3)
      have HBf := below4C HB.out (Nat.le_refl _) (.int .i64 k0) (.string k1) (.int .i64 k2) (.string k3)
      obtain ⟨r0, r1, r2, r3, -, -, -, -⟩ := bx4C hb
      refine bodyPost_ret (v := .agg #[.int .i64 k0, .string k1, .int .i64 k2, .string k3]) (by simp [results, go_sem, r0, r1, r2, r3]) rfl ⟨⟨e, HE.out, HFe.out, by rw [HKV.out]⟩, HBf⟩
    · have HR1 := hide' hr1
      have HG1 : Hid (wr.grownBy w1 (some wa.heap.size)) := hg1
      have hit : ∀ (R : Nat) (cs : Array Value) (T : TypeId), Bx wr R cs T → Bx w1 R cs T := fun R cs T hb => hb.grown hg1 (fun e => by
        injection e with e
        obtain ⟨x, y, z, u, hi⟩ := HR.out.isIter
        unfold Bx at hb
        rw [← e, hi] at hb; cases hb)
      have HC1 : Hid (Cac w1 L M P base most came S Q) := by
        obtain ⟨x, y, z, u, hi⟩ := HR.out.isIter
        exact HC.out.iter hi hg1
      have HK1 := hide' (hit _ _ _ HK.out)
      have HB1 : Hid (Below w.heap.size w w1) := HB.out.grown hg1 HB.out.size (fun k e => by injection e with e; have := HBa.out.size; omega)
      have hba := (HC1.out.en a ha).1
      have HLt : Hid (cnt1 < cnt) := hlt
      have HAm := hide' ha
      have hml := HR.out.left_eq
      have hml1 := hr1.left_eq
      have HM0 := hide' hml
      have HM1 := hide' hml1
      clear hr1 hg1 hs1 hlt ha hla hml hml1 hit
      cases o with
      | none =>
        unfold goV
        have HF1 := hide' (firstI_step HG.out HN.out HAm.out HF.out (fun e he => by cases he))
        go_wp2_with fail
        go_roundw
        case rel => exact ⟨_, cnt1, some a, rfl, HR1.out, HF1.out, HC1.out, HK1.out, HB1.out⟩
        case measure => rw [HM0.out, HM1.out]; exact HLt.out
      | some e =>
        have hbe := (HC1.out.en e HF.out.1).1
        have HIA := hide' (isAhead_any w1 a e hba hbe)
        unfold goV
        simp only [Option.map_some]
        have hgv : ∀ b : Nat, (Value.pointer (some ⟨b, 0, none⟩)) = peV b := fun b => rfl
        clear hgv
        obtain ⟨z, hz⟩ : ∃ z, aheadB a e = z := ⟨_, rfl⟩
        have hz' : (if a.fin = e.fin then decide (a.came < e.came) else decide (a.fin < e.fin)) = z := hz
        rw [hz'] at HIA
        clear hz'
        unfold peV at *
        cases z with
        | true =>
          have HF1 := hide' (firstI_step HG.out HN.out HAm.out HF.out (fun e' he => by cases he; exact hz))
          clear hz
          go_wp2_with (go_at_call 63; refine HIA.out.mono ?_; rintro r2 w2 ⟨rfl, hB2⟩; have HB2 := hide' hB2; clear hB2)
          go_roundw
          case rel => exact ⟨_, cnt1, some a, rfl, Lrng.kept HR1.out (grown_below HB2.out none) (by simp) (by simp), HF1.out, HC1.out.below HB2.out, HK1.out.below HB2.out HK1.out.lt, bstep HB1.out HB2.out HB1.out.size⟩
          case measure => rw [HM0.out, (Lrng.kept HR1.out (grown_below HB2.out none) (by simp) (by simp)).left_eq]; exact HLt.out
        | false =>
          have HF1 := hide' (firstI_keep HG.out HN.out HAm.out HF.out hz)
          clear hz
          go_wp2_with (go_at_call 63; refine HIA.out.mono ?_; rintro r2 w2 ⟨rfl, hB2⟩; have HB2 := hide' hB2; clear hB2)
          go_roundw
          case rel => exact ⟨_, cnt1, some e, rfl, Lrng.kept HR1.out (grown_below HB2.out none) (by simp) (by simp), HF1.out, HC1.out.below HB2.out, HK1.out.below HB2.out HK1.out.lt, bstep HB1.out HB2.out HB1.out.size⟩
          case measure => rw [HM0.out, (Lrng.kept HR1.out (grown_below HB2.out none) (by simp) (by simp)).left_eq]; exact HLt.out
end Go.Proofs.YtgekfhghambacaaGreat

/-
  Chapter 12: (*cache.Cache).pushOut, Size, forgetBelow. (The verifier's own text; mkccb.py writes it.)
-/
namespace Go.Proofs.YtgekfhghambacaaGreat
set_option linter.unusedVariables false
set_option linter.unusedSimpArgs false
open Go.RowKit Go.Shelf Go.Maps Go.Proofs.YtgekfhghambacaaGreat.Nm

theorem Fk.fresh {K : Nat → Obj → Prop} {base : Nat} {w wr w1 : World} {r : Nat} (h : Fk K base w wr) (hg : wr.grownBy w1 (some r)) (hr : w.heap.size ≤ r) : Fk K base w w1 :=
  ⟨hg.os.trans h.os, hg.tape.trans h.tape, hg.output.trans h.output, Nat.le_trans h.size hg.size, fun k hk hl => (hg.block k (Nat.lt_of_lt_of_le hl h.size) (fun e => by injection e with e; omega)).trans (h.low k hk hl), fun k o ho hn => (hg.block k (Nat.lt_of_lt_of_le (Array.getElem?_eq_some_iff.1 ho).1 h.size) (fun e => by
      injection e with e
      have := (Array.getElem?_eq_some_iff.1 ho).1
      omega)).trans (h.far k o ho hn)⟩
/-- how many there are, out of the memory -/
def lenM (w : World) (M : Nat) : Nat := match w.heap[M]? with | some (.map es _) => es.size | _ => 0
theorem Emap.lenM {w : World} {M : Nat} {S : List Ce} (h : Emap w M S) : lenM w M = S.length := by
  obtain ⟨D, n, ⟨es, clock, hb, F, hs, rfl⟩, h2⟩ := h
  unfold Go.Proofs.YtgekfhghambacaaGreat.lenM
  rw [hb]
  have := h2.size
  rw [← this]
  simp [Maps.size, length_sorted]
/-- those that are alive -/
def aliveF (now : Int) (S : List Ce) : List Ce := S.filter (fun e => decide (e.fin > now))
/-- those that are kept so far, along a range -/
def cutF (g : Ce → Bool) (left : Lit → Bool) (S : List Ce) : List Ce := S.filter (fun e => !g e || left (kyL e.key))
theorem cutF_sub {g : Ce → Bool} {left : Lit → Bool} {S : List Ce} : (cutF g left S).Sublist S := List.filter_sublist
theorem cutF_all {g : Ce → Bool} {left : Lit → Bool} {S : List Ce} (h : ∀ e ∈ S, left (kyL e.key) = true) : cutF g left S = S := List.filter_eq_self.2 fun e he => by rw [h e he, Bool.or_true]
theorem cutF_end {g : Ce → Bool} {left : Lit → Bool} {S : List Ce} (h : ∀ z, left z = false) : cutF g left S = S.filter (fun e => !g e) := by
  unfold cutF
  apply List.filter_congr
  intro e _
  rw [h, Bool.or_false]
theorem cutF_keep {g : Ce → Bool} {left : Lit → Bool} {S : List Ce} {a : Ce} (hg : ∀ e ∈ S, kyG e.key) (hn : (S.map Ce.key).Nodup) (ha : a ∈ S) (hp : g a = false) : cutF g (fun x => left x && !x.sameKey (kyL a.key)) S = cutF g left S := by
  unfold cutF
  apply List.filter_congr
  intro e he
  dsimp only
  rw [ky_same (hg e he) (hg a ha)]
  by_cases e1 : e.key = a.key
  · rw [nodup_inj hn he ha e1, hp]; rfl
  · rw [decide_eq_false e1]; simp
theorem cutF_drop {g : Ce → Bool} {left : Lit → Bool} {S : List Ce} {a : Ce} (hg : ∀ e ∈ S, kyG e.key) (hn : (S.map Ce.key).Nodup) (ha : a ∈ S) (hp : g a = true) : cutF g (fun x => left x && !x.sameKey (kyL a.key)) S = outK Ce.key a.key (cutF g left S) := by
  unfold cutF outK
  rw [List.filter_filter]
  apply List.filter_congr
  intro e he
  dsimp only
  rw [ky_same (hg e he) (hg a ha)]
  by_cases e1 : e.key = a.key
  · have e2 := nodup_inj hn he ha e1
    subst e2
    rw [hp, decide_eq_true rfl]; simp
  · rw [decide_eq_false e1]; simp
/-- struck once more: nothing -/
theorem left_once {left : Lit → Bool} {x : Ky} : ∀ z, ((left z && !z.sameKey (kyL x)) && !z.sameKey (kyL x)) = (left z && !z.sameKey (kyL x)) := fun z => by cases left z <;> cases z.sameKey (kyL x) <;> rfl
/-- so many are pushed out, each the first of those that are there -/
def drops (most : Int) : Nat → List Ce → List Ce → Prop
  | 0, S, S' => S' = S
  | n + 1, S, S' => ∃ S1, drops most n S S1 ∧ most < (S1.length : Int) ∧ ∃ e, e ∈ S1 ∧ (∀ f ∈ S1, aheadB f e = false) ∧ S' = outK Ce.key e.key S1
theorem drops_sub (most : Int) : ∀ (n : Nat) (S S' : List Ce), drops most n S S' → S'.Sublist S
  | 0, S, S', h => by rw [show S' = S from h]; exact List.Sublist.refl _
  | n + 1, S, S', ⟨S1, h1, _, e, _, _, h2⟩ => by rw [h2]; exact outK_sub.trans (drops_sub most n S S1 h1)
/-- what pushOut leaves -/
def pushE (most now : Int) (S S' : List Ce) : Prop := ((S.length : Int) ≤ most ∧ S' = S) ∨ (most < (S.length : Int) ∧ (S'.length : Int) ≤ most ∧ ∃ n, drops most n (aliveF now S) S')
theorem pushE_len {most now : Int} {S S' : List Ce} (h : pushE most now S S') : (S'.length : Int) ≤ most := by
  rcases h with ⟨h, rfl⟩ | ⟨_, h, _⟩ <;> exact h
theorem pushE_sub {most now : Int} {S S' : List Ce} (h : pushE most now S S') : S'.Sublist S := by
  rcases h with ⟨_, rfl⟩ | ⟨_, _, n, h⟩
  · exact List.Sublist.refl _
  · exact (drops_sub _ _ _ _ h).trans List.filter_sublist
/-- a new key's box -/
theorem alloc_key (w : World) (x : Ky) : Bx (w.alloc (.cells #[.int .i64 x.1, .string x.2.1, .int .i64 x.2.2.1, .string x.2.2.2] 57)) w.heap.size #[.int .i64 x.1, .string x.2.1, .int .i64 x.2.2.1, .string x.2.2.2] 57 := World.alloc_heap_new w _
/-- how many are alive among those that were seen -/
theorem count_one {α : Type} {p q : α → Bool} {a : α} {b : Bool} : ∀ (S : List α), a ∈ S → S.Pairwise (· ≠ ·) → p a = false → q a = b → (∀ e ∈ S, e ≠ a → q e = p e) → S.countP q = S.countP p + (if b then 1 else 0)
  | [], h, _, _, _, _ => by cases h
  | c :: S, h, hn, hp, hq, hs => by
    obtain ⟨h1, h2⟩ := List.pairwise_cons.1 hn
    rw [List.countP_cons, List.countP_cons]
    rcases List.mem_cons.1 h with rfl | h
    · have : S.countP q = S.countP p := by
        apply List.countP_congr
        intro e he
        rw [hs e (List.mem_cons_of_mem _ he) (fun e1 => h1 e he e1.symm)]
      rw [this, hp, hq]
      simp
    · have hc : q c = p c := hs c List.mem_cons_self (h1 a h)
      rw [hc, count_one S h h2 hp hq (fun e he => hs e (List.mem_cons_of_mem _ he))]
      omega
def seenN (left : Lit → Bool) (now : Int) (S : List Ce) : Nat := S.countP (fun e => !left (kyL e.key) && decide (e.fin > now))
theorem seenN_step {left : Lit → Bool} {now : Int} {S : List Ce} {a : Ce} (hg : ∀ e ∈ S, kyG e.key) (hn : (S.map Ce.key).Nodup) (ha : a ∈ S) (hl : left (kyL a.key) = true) : seenN (fun x => left x && !x.sameKey (kyL a.key)) now S = seenN left now S + (if decide (a.fin > now) then 1 else 0) := by
  have hpw : S.Pairwise (· ≠ ·) := by
    have := hn
    unfold List.Nodup at this
    rw [List.pairwise_map] at this
    exact this.imp (fun h e => h (by rw [e]))
  refine count_one S ha hpw ?_ ?_ (fun e he hne => ?_)
  · simp [hl]
  · dsimp only
    rw [ky_same (hg a ha) (hg a ha), decide_eq_true rfl]; simp
  · have e1 : ¬ e.key = a.key := fun h => hne (nodup_inj hn he ha h)
    dsimp only
    rw [ky_same (hg e he) (hg a ha), decide_eq_false e1]; simp
theorem seenN_le (left : Lit → Bool) (now : Int) (S : List Ce) : seenN left now S ≤ S.length := List.countP_le_length
theorem seenN_end {left : Lit → Bool} (h : ∀ z, left z = false) (now : Int) (S : List Ce) : seenN left now S = (aliveF now S).length := by
  unfold seenN aliveF
  rw [← List.countP_eq_length_filter]
  apply List.countP_congr
  intro e _
  rw [h]; simp
set_option maxRecDepth 100000 in
set_option maxHeartbeats 4000000 in
/-- (*cache.Cache).Size -/
theorem size_any {w : World} {L M P base : Nat} {most came now : Int} {S : List Ce} {Q : List Qe} (h : Cac w L M P base most came S Q) (hM : Emap w M S) (hm : most ≠ 0) :
    Calls Tryz.prog 13 #[.pointer (some ⟨L, 0, none⟩), .int .i64 now] w fun r w' => r = .returned (.int .i64 ((aliveF now S).length : Int)) ∧ Below w.heap.size w w' := by
  have HG := hide' hM.good
  have HN := hide' hM.nodup
  have HIN := hide' (isNone_any L most w (h.bx.cell (j := 0) rfl) hm)
  obtain ⟨w0, left0, hrun0, hrg0, hall0, hg0, hs0⟩ := Emap.range hM
  have HR0 := hide' hrg0
  have HA0 := hide' hall0
  have HB0 : Hid (Below w.heap.size w w0) := (Below.refl _ w).grown hg0 (Nat.le_refl _) (fun k e => by cases e)
  have HC0 := hide' (h.idle hg0)
  have c2 : w.cell? ⟨L, 2, none⟩ = some (.map (some M)) := h.bx.cell rfl
  have HLen : Hid (S.length ≤ 100000) := h.len
  clear h hM hrg0 hall0 hg0 hs0
  go_enter Tryz.func13, Tryz.ntmps13
  go_wp2_with (go_at_call 15; refine HIN.out.mono ?_; rintro e1 w1 ⟨rfl, hw1⟩; have hw1' := hw1.symm; subst hw1')
  go_loopw [5] (fun v wr => ∃ (left : Lit → Bool) (cnt c : Nat), v = .int .i64 (c : Int) ∧ c ≤ 100000 ∧ Hid (c = seenN left now S) ∧ Hid (Erng wr M w.heap.size left cnt S) ∧ Hid (Cac wr L M P base most came S Q) ∧ Hid (Below w.heap.size w wr)) (fun _ wr => wr.rangeLeft M w.heap.size)
  case atStart => exact ⟨left0, _, 0, rfl, by omega, (by
    unfold Hid seenN
    symm
    rw [List.countP_eq_zero]
    intro e he
    rw [HA0.out e he]; simp), HR0.out, HC0.out, HB0.out⟩
  case round =>
    obtain ⟨left, cnt, c, rfl, hc, HS, HR, HC, HB⟩ := hrel
    rcases HR.out.next 0 with ⟨hc0, hl0, hrun⟩ | ⟨a, ha, w1, cnt1, hla, hrun, hr1, hlt, hg1, hs1, hen⟩
    · have HL0 := hide' hl0
      clear hl0 hc0
      go_wp2_with fail
      go_ret
      exact ⟨by rw [HS.out, seenN_end HL0.out]; rfl, HB.out⟩
    · have HR1 := hide' hr1
      have HC1 : Hid (Cac w1 L M P base most came S Q) := by
        obtain ⟨x, y, z, u, hi⟩ := HR.out.isIter
        exact HC.out.iter hi hg1
      have HB1 : Hid (Below w.heap.size w w1) := HB.out.grown hg1 HB.out.size (fun k e => by injection e with e; omega)
      have hba := (HC1.out.en a ha).1
      have HLt : Hid (cnt1 < cnt) := hlt
      have hml := HR.out.left_eq
      have hml1 := hr1.left_eq
      have HM0 := hide' hml
      have HM1 := hide' hml1
      have HSt := hide' (seenN_step (now := now) HG.out HN.out ha hla)
      have HIA := hide' (isAlive_some now w1 a hba)
      have hle := seenN_le (fun x => left x && !x.sameKey (kyL a.key)) now S
      clear hr1 hg1 hs1 hlt ha hla hml hml1
      unfold peV at *
      by_cases hf : a.fin > now
      · rw [decide_eq_true hf] at HIA HSt
        have hc1 : c + 1 ≤ 100000 := by
          have h1 := HSt.out
          have h2 := HS.out
          have h3 := HLen.out
          simp only [if_true] at h1
          omega
        have HS1 : Hid (c + 1 = seenN (fun x => left x && !x.sameKey (kyL a.key)) now S) := by unfold Hid; rw [HSt.out, HS.out]; simp
        clear hle hf
        go_wp2_with (go_at_call 19; refine HIA.out.mono ?_; rintro r2 w2 ⟨rfl, hw2⟩; have hw2' := hw2.symm; subst hw2')
        go_roundw
        case rel => exact ⟨_, cnt1, c + 1, by go_num, hc1, HS1.out, HR1.out, HC1.out, HB1.out⟩
        case measure => rw [HM0.out, HM1.out]; exact HLt.out
      · rw [decide_eq_false hf] at HIA HSt
        have HS1 : Hid (c = seenN (fun x => left x && !x.sameKey (kyL a.key)) now S) := by unfold Hid; rw [HSt.out, HS.out]; simp
        clear hle hf
        go_wp2_with (go_at_call 19; refine HIA.out.mono ?_; rintro r2 w2 ⟨rfl, hw2⟩; have hw2' := hw2.symm; subst hw2')
        go_roundw
        case rel => exact ⟨_, cnt1, c, rfl, hc, HS1.out, HR1.out, HC1.out, HB1.out⟩
        case measure => rw [HM0.out, HM1.out]; exact HLt.out
set_option maxRecDepth 100000 in
set_option maxHeartbeats 4000000 in
/-- (*cache.Cache).pushOut -/
theorem pushOut_any {w : World} {L M P base : Nat} {most came now : Int} {S : List Ce} {Q : List Qe} (h : Cac w L M P base most came S Q) (hM : Emap w M S) (hm : 0 ≤ most) :
    Calls Tryz.prog 30 #[.pointer (some ⟨L, 0, none⟩), .int .i64 now] w fun r w' => r = .returned (.tuple #[]) ∧ ∃ S' Q', pushE most now S S' ∧ Cac w' L M P base most came S' Q' ∧ Emap w' M S' ∧ Fk (FC M P) base w w' := by
  have HLM : Hid (L ≠ M) := (h.neLM hM.isMap).1
  have HG := hide' hM.good
  have HN := hide' hM.nodup
  have HC := hide' h
  have HM := hide' hM
  have HMp : Hid (0 ≤ most) := hm
  clear h hM hm
  by_cases hle : (S.length : Int) ≤ most
  · go_enter Tryz.func30, Tryz.ntmps30
    go_wp2_with fail
    refine wp_region_held_drew (S := fun V => V.cell? ⟨L, 2, none⟩ = some (.map (some M)) ∧ V.cell? ⟨L, 0, none⟩ = some (.int .i64 most) ∧ (Builtin.len_ #[47] 3 #[.map (some M)]).run Tryz.prog V = .ok (.int .i64 (S.length : Int)) V) (by kernel_rfl) ?_ (fun hHeld => ?_)
    · exact ⟨HC.out.bx.cell (j := 2) rfl, HC.out.bx.cell (j := 0) rfl, Lmap.len (w := w.drew) (Lmap.kept HM.out (row := none) ⟨rfl, rfl, rfl, Nat.le_refl _, fun _ _ _ => rfl⟩ (by simp)) Tryz.underlying47 _⟩
    refine takeD 0 (some 6) (.pointer (some ⟨L, 0, none⟩)) rfl rfl (by kernel_rfl) (by kernel_rfl) (by kernel_rfl) (fun _ _ _ h => h) (Or.inl ⟨by rfl, ?_⟩) (by assumption) ?_
    · intro w hSw; (try dsimp only at hSw); obtain ⟨c2, c0, hl⟩ := hSw; go_simp <;> (intros; omega)
    simp only [Act.put, List.setIfInBounds_toArray, List.set_cons_zero, List.set_cons_succ]
    refine takeD 1 (some 7) (.pointer (some ⟨L, 0, none⟩)) rfl rfl (by kernel_rfl) (by kernel_rfl) (by kernel_rfl) (fun _ _ _ h => h) (Or.inl ⟨by rfl, ?_⟩) (by assumption) ?_
    · intro w hSw; (try dsimp only at hSw); obtain ⟨c2, c0, hl⟩ := hSw; go_simp <;> (intros; omega)
    simp only [Act.put, List.setIfInBounds_toArray, List.set_cons_zero, List.set_cons_succ]
    refine takeD 2 (some 8) (.pointer (some ⟨L, 2, none⟩)) rfl rfl (by kernel_rfl) (by kernel_rfl) (by kernel_rfl) (fun _ _ _ h => h) (Or.inl ⟨by rfl, ?_⟩) (by assumption) ?_
    · intro w hSw; (try dsimp only at hSw); obtain ⟨c2, c0, hl⟩ := hSw; go_simp <;> (intros; omega)
    simp only [Act.put, List.setIfInBounds_toArray, List.set_cons_zero, List.set_cons_succ]
    refine takeD 3 (some 9) (.map (some M)) rfl rfl (by kernel_rfl) (by kernel_rfl) (by kernel_rfl) (fun _ _ _ h => h) (Or.inl ⟨by rfl, ?_⟩) (by assumption) ?_
    · intro w hSw; (try dsimp only at hSw); obtain ⟨c2, c0, hl⟩ := hSw; go_simp <;> (intros; omega)
    simp only [Act.put, List.setIfInBounds_toArray, List.set_cons_zero, List.set_cons_succ]
    refine takeD 4 (some 10) (.int .i64 (S.length : Int)) rfl rfl (by kernel_rfl) (by kernel_rfl) (by kernel_rfl) (fun _ _ _ h => h) (Or.inl ⟨by rfl, ?_⟩) (by assumption) ?_
    · intro w hSw; (try dsimp only at hSw); obtain ⟨c2, c0, hl⟩ := hSw; go_simp <;> (intros; omega)
    simp only [Act.put, List.setIfInBounds_toArray, List.set_cons_zero, List.set_cons_succ]
    refine takeD 5 (some 11) (.pointer (some ⟨L, 0, none⟩)) rfl rfl (by kernel_rfl) (by kernel_rfl) (by kernel_rfl) (fun _ _ _ h => h) (Or.inl ⟨by rfl, ?_⟩) (by assumption) ?_
    · intro w hSw; (try dsimp only at hSw); obtain ⟨c2, c0, hl⟩ := hSw; go_simp <;> (intros; omega)
    simp only [Act.put, List.setIfInBounds_toArray, List.set_cons_zero, List.set_cons_succ]
    refine takeD 6 (some 12) (.pointer (some ⟨L, 0, none⟩)) rfl rfl (by kernel_rfl) (by kernel_rfl) (by kernel_rfl) (fun _ _ _ h => h) (Or.inl ⟨by rfl, ?_⟩) (by assumption) ?_
    · intro w hSw; (try dsimp only at hSw); obtain ⟨c2, c0, hl⟩ := hSw; go_simp <;> (intros; omega)
    simp only [Act.put, List.setIfInBounds_toArray, List.set_cons_zero, List.set_cons_succ]
    refine takeD 7 (some 13) (.pointer (some ⟨L, 0, none⟩)) rfl rfl (by kernel_rfl) (by kernel_rfl) (by kernel_rfl) (fun _ _ _ h => h) (Or.inl ⟨by rfl, ?_⟩) (by assumption) ?_
    · intro w hSw; (try dsimp only at hSw); obtain ⟨c2, c0, hl⟩ := hSw; go_simp <;> (intros; omega)
    simp only [Act.put, List.setIfInBounds_toArray, List.set_cons_zero, List.set_cons_succ]
    refine takeD 8 (some 14) (.int .i64 most) rfl rfl (by kernel_rfl) (by kernel_rfl) (by kernel_rfl) (fun _ _ _ h => h) (Or.inl ⟨by rfl, ?_⟩) (by assumption) ?_
    · intro w hSw; (try dsimp only at hSw); obtain ⟨c2, c0, hl⟩ := hSw; go_simp <;> (intros; omega)
    simp only [Act.put, List.setIfInBounds_toArray, List.set_cons_zero, List.set_cons_succ]
    refine takeD 9 (some 15) (.bool true) rfl rfl (by kernel_rfl) (by kernel_rfl) (by kernel_rfl) (fun _ _ _ h => h) (Or.inl ⟨by rfl, ?_⟩) (by assumption) ?_
    · intro w hSw; (try dsimp only at hSw); obtain ⟨c2, c0, hl⟩ := hSw; go_simp <;> (intros; omega)
    simp only [Act.put, List.setIfInBounds_toArray, List.set_cons_zero, List.set_cons_succ]
    refine wpAnyH_done (by kernel_rfl) ?_ _
    clear hHeld
    go_wp2_with fail
    refine bodyPost_ret (v := .tuple #[]) (by simp [results, go_sem]) rfl ?_
    exact ⟨rfl, S, Q, .inl ⟨hle, rfl⟩, HC.out.idle ⟨rfl, rfl, rfl, Nat.le_refl _, fun _ _ _ => rfl⟩, HM.out, Fk.idle ⟨rfl, rfl, rfl, Nat.le_refl _, fun _ _ _ => rfl⟩⟩
  · have HLe := hide' hle
    obtain ⟨wd, hwd⟩ : ∃ wd, w.drew = wd := ⟨_, rfl⟩
    have HGd : Hid (w.grownBy wd none) := hwd ▸ ⟨rfl, rfl, rfl, Nat.le_refl _, fun _ _ _ => rfl⟩
    have hsz : wd.heap.size = w.heap.size := by rw [← hwd]; rfl
    have HSz := hide' hsz
    clear hsz
    have HCd := hide' (HC.out.idle HGd.out)
    have HMd : Hid (Emap wd M S) := Lmap.kept HM.out HGd.out (by simp)
    have HHd : Hid (wd.cell? ⟨L, 2, none⟩ = some (.map (some M)) ∧ wd.cell? ⟨L, 0, none⟩ = some (.int .i64 most) ∧ (Builtin.len_ #[47] 3 #[.map (some M)]).run Tryz.prog wd = .ok (.int .i64 (S.length : Int)) wd) := ⟨HCd.out.bx.cell (j := 2) rfl, HCd.out.bx.cell (j := 0) rfl, Lmap.len HMd.out Tryz.underlying47 _⟩
    go_enter Tryz.func30, Tryz.ntmps30
    go_wp2_with fail
    refine wp_region_held_drew (S := fun V => V.cell? ⟨L, 2, none⟩ = some (.map (some M)) ∧ V.cell? ⟨L, 0, none⟩ = some (.int .i64 most) ∧ (Builtin.len_ #[47] 3 #[.map (some M)]).run Tryz.prog V = .ok (.int .i64 (S.length : Int)) V) (by kernel_rfl) ?_ (fun hHeld => ?_)
    · rw [hwd]; exact HHd.out
    refine takeD 0 (some 6) (.pointer (some ⟨L, 0, none⟩)) rfl rfl (by kernel_rfl) (by kernel_rfl) (by kernel_rfl) (fun _ _ _ h => h) (Or.inl ⟨by rfl, ?_⟩) (by assumption) ?_
    · intro w hSw; (try dsimp only at hSw); obtain ⟨c2, c0, hl⟩ := hSw; go_simp <;> (intros; omega)
    simp only [Act.put, List.setIfInBounds_toArray, List.set_cons_zero, List.set_cons_succ]
    refine takeD 1 (some 7) (.pointer (some ⟨L, 0, none⟩)) rfl rfl (by kernel_rfl) (by kernel_rfl) (by kernel_rfl) (fun _ _ _ h => h) (Or.inl ⟨by rfl, ?_⟩) (by assumption) ?_
    · intro w hSw; (try dsimp only at hSw); obtain ⟨c2, c0, hl⟩ := hSw; go_simp <;> (intros; omega)
    simp only [Act.put, List.setIfInBounds_toArray, List.set_cons_zero, List.set_cons_succ]
    refine takeD 2 (some 8) (.pointer (some ⟨L, 2, none⟩)) rfl rfl (by kernel_rfl) (by kernel_rfl) (by kernel_rfl) (fun _ _ _ h => h) (Or.inl ⟨by rfl, ?_⟩) (by assumption) ?_
    · intro w hSw; (try dsimp only at hSw); obtain ⟨c2, c0, hl⟩ := hSw; go_simp <;> (intros; omega)
    simp only [Act.put, List.setIfInBounds_toArray, List.set_cons_zero, List.set_cons_succ]
    refine takeD 3 (some 9) (.map (some M)) rfl rfl (by kernel_rfl) (by kernel_rfl) (by kernel_rfl) (fun _ _ _ h => h) (Or.inl ⟨by rfl, ?_⟩) (by assumption) ?_
    · intro w hSw; (try dsimp only at hSw); obtain ⟨c2, c0, hl⟩ := hSw; go_simp <;> (intros; omega)
    simp only [Act.put, List.setIfInBounds_toArray, List.set_cons_zero, List.set_cons_succ]
    refine takeD 4 (some 10) (.int .i64 (S.length : Int)) rfl rfl (by kernel_rfl) (by kernel_rfl) (by kernel_rfl) (fun _ _ _ h => h) (Or.inl ⟨by rfl, ?_⟩) (by assumption) ?_
    · intro w hSw; (try dsimp only at hSw); obtain ⟨c2, c0, hl⟩ := hSw; go_simp <;> (intros; omega)
    simp only [Act.put, List.setIfInBounds_toArray, List.set_cons_zero, List.set_cons_succ]
    refine takeD 5 (some 11) (.pointer (some ⟨L, 0, none⟩)) rfl rfl (by kernel_rfl) (by kernel_rfl) (by kernel_rfl) (fun _ _ _ h => h) (Or.inl ⟨by rfl, ?_⟩) (by assumption) ?_
    · intro w hSw; (try dsimp only at hSw); obtain ⟨c2, c0, hl⟩ := hSw; go_simp <;> (intros; omega)
    simp only [Act.put, List.setIfInBounds_toArray, List.set_cons_zero, List.set_cons_succ]
    refine takeD 6 (some 12) (.pointer (some ⟨L, 0, none⟩)) rfl rfl (by kernel_rfl) (by kernel_rfl) (by kernel_rfl) (fun _ _ _ h => h) (Or.inl ⟨by rfl, ?_⟩) (by assumption) ?_
    · intro w hSw; (try dsimp only at hSw); obtain ⟨c2, c0, hl⟩ := hSw; go_simp <;> (intros; omega)
    simp only [Act.put, List.setIfInBounds_toArray, List.set_cons_zero, List.set_cons_succ]
    refine takeD 7 (some 13) (.pointer (some ⟨L, 0, none⟩)) rfl rfl (by kernel_rfl) (by kernel_rfl) (by kernel_rfl) (fun _ _ _ h => h) (Or.inl ⟨by rfl, ?_⟩) (by assumption) ?_
    · intro w hSw; (try dsimp only at hSw); obtain ⟨c2, c0, hl⟩ := hSw; go_simp <;> (intros; omega)
    simp only [Act.put, List.setIfInBounds_toArray, List.set_cons_zero, List.set_cons_succ]
    refine takeD 8 (some 14) (.int .i64 most) rfl rfl (by kernel_rfl) (by kernel_rfl) (by kernel_rfl) (fun _ _ _ h => h) (Or.inl ⟨by rfl, ?_⟩) (by assumption) ?_
    · intro w hSw; (try dsimp only at hSw); obtain ⟨c2, c0, hl⟩ := hSw; go_simp <;> (intros; omega)
    simp only [Act.put, List.setIfInBounds_toArray, List.set_cons_zero, List.set_cons_succ]
    refine takeD 9 (some 15) (.bool false) rfl rfl (by kernel_rfl) (by kernel_rfl) (by kernel_rfl) (fun _ _ _ h => h) (Or.inl ⟨by rfl, ?_⟩) (by assumption) ?_
    · intro w hSw; (try dsimp only at hSw); obtain ⟨c2, c0, hl⟩ := hSw; go_simp <;> (intros; omega)
    simp only [Act.put, List.setIfInBounds_toArray, List.set_cons_zero, List.set_cons_succ]
    refine wpAnyH_done (by kernel_rfl) ?_ _
    clear hHeld
    rw [hwd]
    clear hwd
    obtain ⟨w0, left0, hrun0, hrg0, hall0, hg0, hs0⟩ := Emap.range HMd.out
    obtain ⟨rb, hrb⟩ : ∃ rb, wd.heap.size = rb := ⟨_, rfl⟩
    rw [hrb] at hrun0 hrg0
    have HIt : Hid (w.heap.size ≤ rb) := by unfold Hid; rw [← hrb, HSz.out]; exact Nat.le_refl _
    have HR0 : Hid (Erng w0 M rb left0 S.length (cutF (fun e => !decide (e.fin > now)) left0 S)) := by rw [cutF_all hall0]; exact hrg0
    have HC0 : Hid (Cac w0 L M P base most came (cutF (fun e => !decide (e.fin > now)) left0 S) Q) := by rw [cutF_all hall0]; exact HCd.out.idle hg0
    have HF0 : Hid (Fk (FK M P) base w w0) := (Fk.idle HGd.out).trans (Fk.idle hg0)
    have c2 : wd.cell? ⟨L, 2, none⟩ = some (.map (some M)) := HCd.out.bx.cell rfl
    clear hrg0 hall0 hg0 hs0 hrb hle
    have T0 : Hid True := trivial
    go_wp2_with fail
    go_loopw [] (fun wr => ∃ (left : Lit → Bool) (cnt : Nat) (Q1 : List Qe), Hid (Erng wr M rb left cnt (cutF (fun e => !decide (e.fin > now)) left S)) ∧ Hid (Cac wr L M P base most came (cutF (fun e => !decide (e.fin > now)) left S) Q1) ∧ Hid (Fk (FK M P) base w wr)) (fun wr => wr.rangeLeft M rb)
    case atStart => exact ⟨left0, _, Q, HR0.out, HC0.out, HF0.out⟩
    case round =>
      obtain ⟨left, cnt, Q1, HR, HC, HF⟩ := hrel
      rcases HR.out.next 0 with ⟨hc0, hl0, hrun⟩ | ⟨a, ha, w1, cnt1, hla, hrun, hr1, hlt, hg1, hs1, hen⟩
      · have hend := cutF_end (g := fun e => !decide (e.fin > now)) (S := S) hl0
        have hend2 : S.filter (fun e => !!decide (e.fin > now)) = aliveF now S := by unfold aliveF; simp
        rw [hend2] at hend
        have HC3 : Hid (Cac wr L M P base most came (aliveF now S) Q1) := hend ▸ HC.out
        have HM3 : Hid (Emap wr M (aliveF now S)) := hend ▸ HR.out.map
        clear hend hend2 hl0 hc0
        go_wp2_with fail
        go_loopw [] (fun wr => ∃ (n : Nat) (S1 : List Ce) (Q1 : List Qe), Hid (drops most n (aliveF now S) S1) ∧ Hid (Cac wr L M P base most came S1 Q1) ∧ Hid (Emap wr M S1) ∧ Hid (Fk (FK M P) base w wr)) (fun wr => lenM wr M)
        case atStart => exact ⟨0, _, Q1, rfl, HC3.out, HM3.out, HF.out⟩
        case round =>
          clear HR HC HF HC3 HM3 hrun
          obtain ⟨n, S1, Q2, HD, HC, HM, HF⟩ := hrel
          by_cases hgt : most < (S1.length : Int)
          · have HGt := hide' hgt
            have hgtb : ((S1.length : Int) > most) := hgt
            obtain ⟨wv, hwv⟩ : ∃ wv, wr.drew = wv := ⟨_, rfl⟩
            have HGv : Hid (wr.grownBy wv none) := hwv ▸ ⟨rfl, rfl, rfl, Nat.le_refl _, fun _ _ _ => rfl⟩
            have HCv := hide' (HC.out.idle HGv.out)
            have HMv : Hid (Emap wv M S1) := Lmap.kept HM.out HGv.out (by simp)
            have HHv : Hid (wv.cell? ⟨L, 2, none⟩ = some (.map (some M)) ∧ wv.cell? ⟨L, 0, none⟩ = some (.int .i64 most) ∧ (Builtin.len_ #[47] 3 #[.map (some M)]).run Tryz.prog wv = .ok (.int .i64 (S1.length : Int)) wv) := ⟨HCv.out.bx.cell (j := 2) rfl, HCv.out.bx.cell (j := 0) rfl, Lmap.len HMv.out Tryz.underlying47 _⟩
            have HFs := hide' (first_any HCv.out HMv.out (fun e => by have h1 := HGt.out; have h2 := HMp.out; rw [e] at h1; simp at h1; omega))
            have HFv : Hid (Fk (FK M P) base w wv) := HF.out.trans (Fk.idle HGv.out)
            go_wp2_with fail
            refine wp_region_held_drew (S := fun V => V.cell? ⟨L, 2, none⟩ = some (.map (some M)) ∧ V.cell? ⟨L, 0, none⟩ = some (.int .i64 most) ∧ (Builtin.len_ #[47] 3 #[.map (some M)]).run Tryz.prog V = .ok (.int .i64 (S1.length : Int)) V) (by kernel_rfl) ?_ (fun hHeld => ?_)
            · rw [hwv]; exact HHv.out
            refine takeD 0 (some 33) (.pointer (some ⟨L, 0, none⟩)) rfl rfl (by kernel_rfl) (by kernel_rfl) (by kernel_rfl) (fun _ _ _ h => h) (Or.inl ⟨by rfl, ?_⟩) (by assumption) ?_
            · intro w hSw; (try dsimp only at hSw); obtain ⟨c2, c0, hl⟩ := hSw; go_simp <;> (intros; omega)
            simp only [Act.put, List.setIfInBounds_toArray, List.set_cons_zero, List.set_cons_succ]
            refine takeD 1 (some 34) (.pointer (some ⟨L, 0, none⟩)) rfl rfl (by kernel_rfl) (by kernel_rfl) (by kernel_rfl) (fun _ _ _ h => h) (Or.inl ⟨by rfl, ?_⟩) (by assumption) ?_
            · intro w hSw; (try dsimp only at hSw); obtain ⟨c2, c0, hl⟩ := hSw; go_simp <;> (intros; omega)
            simp only [Act.put, List.setIfInBounds_toArray, List.set_cons_zero, List.set_cons_succ]
            refine takeD 2 (some 35) (.pointer (some ⟨L, 2, none⟩)) rfl rfl (by kernel_rfl) (by kernel_rfl) (by kernel_rfl) (fun _ _ _ h => h) (Or.inl ⟨by rfl, ?_⟩) (by assumption) ?_
            · intro w hSw; (try dsimp only at hSw); obtain ⟨c2, c0, hl⟩ := hSw; go_simp <;> (intros; omega)
            simp only [Act.put, List.setIfInBounds_toArray, List.set_cons_zero, List.set_cons_succ]
            refine takeD 3 (some 36) (.map (some M)) rfl rfl (by kernel_rfl) (by kernel_rfl) (by kernel_rfl) (fun _ _ _ h => h) (Or.inl ⟨by rfl, ?_⟩) (by assumption) ?_
            · intro w hSw; (try dsimp only at hSw); obtain ⟨c2, c0, hl⟩ := hSw; go_simp <;> (intros; omega)
            simp only [Act.put, List.setIfInBounds_toArray, List.set_cons_zero, List.set_cons_succ]
            refine takeD 4 (some 37) (.int .i64 (S1.length : Int)) rfl rfl (by kernel_rfl) (by kernel_rfl) (by kernel_rfl) (fun _ _ _ h => h) (Or.inl ⟨by rfl, ?_⟩) (by assumption) ?_
            · intro w hSw; (try dsimp only at hSw); obtain ⟨c2, c0, hl⟩ := hSw; go_simp <;> (intros; omega)
            simp only [Act.put, List.setIfInBounds_toArray, List.set_cons_zero, List.set_cons_succ]
            refine takeD 5 (some 38) (.pointer (some ⟨L, 0, none⟩)) rfl rfl (by kernel_rfl) (by kernel_rfl) (by kernel_rfl) (fun _ _ _ h => h) (Or.inl ⟨by rfl, ?_⟩) (by assumption) ?_
            · intro w hSw; (try dsimp only at hSw); obtain ⟨c2, c0, hl⟩ := hSw; go_simp <;> (intros; omega)
            simp only [Act.put, List.setIfInBounds_toArray, List.set_cons_zero, List.set_cons_succ]
            refine takeD 6 (some 39) (.pointer (some ⟨L, 0, none⟩)) rfl rfl (by kernel_rfl) (by kernel_rfl) (by kernel_rfl) (fun _ _ _ h => h) (Or.inl ⟨by rfl, ?_⟩) (by assumption) ?_
            · intro w hSw; (try dsimp only at hSw); obtain ⟨c2, c0, hl⟩ := hSw; go_simp <;> (intros; omega)
            simp only [Act.put, List.setIfInBounds_toArray, List.set_cons_zero, List.set_cons_succ]
            refine takeD 7 (some 40) (.pointer (some ⟨L, 0, none⟩)) rfl rfl (by kernel_rfl) (by kernel_rfl) (by kernel_rfl) (fun _ _ _ h => h) (Or.inl ⟨by rfl, ?_⟩) (by assumption) ?_
            · intro w hSw; (try dsimp only at hSw); obtain ⟨c2, c0, hl⟩ := hSw; go_simp <;> (intros; omega)
            simp only [Act.put, List.setIfInBounds_toArray, List.set_cons_zero, List.set_cons_succ]
            refine takeD 8 (some 41) (.int .i64 most) rfl rfl (by kernel_rfl) (by kernel_rfl) (by kernel_rfl) (fun _ _ _ h => h) (Or.inl ⟨by rfl, ?_⟩) (by assumption) ?_
            · intro w hSw; (try dsimp only at hSw); obtain ⟨c2, c0, hl⟩ := hSw; go_simp <;> (intros; omega)
            simp only [Act.put, List.setIfInBounds_toArray, List.set_cons_zero, List.set_cons_succ]
            refine takeD 9 (some 42) (.bool true) rfl rfl (by kernel_rfl) (by kernel_rfl) (by kernel_rfl) (fun _ _ _ h => h) (Or.inl ⟨by rfl, ?_⟩) (by assumption) ?_
            · intro w hSw; (try dsimp only at hSw); obtain ⟨c2, c0, hl⟩ := hSw; go_simp <;> (intros; omega)
            simp only [Act.put, List.setIfInBounds_toArray, List.set_cons_zero, List.set_cons_succ]
            refine wpAnyH_done (by kernel_rfl) ?_ _
            clear hHeld
            try rw [hwv]
            clear hwv
            go_wp2_with (first
              | (go_at_call 47; refine HFs.out.mono ?_; rintro r4 w4 ⟨hr4, hB4⟩; obtain ⟨e, he, hfe, rfl⟩ := hr4; have HB4 := hide' (grown_below hB4 none); have HE := hide' he; have HFE := hide' hfe; have HC4 := hide' (HCv.out.idle HB4.out); have HM4 : Hid (Emap w4 M S1) := Lmap.kept HMv.out HB4.out (by simp); have HFG := hide' (forget_any (I := fun w S => Emap w M S) (r := none) (mvE M (HMv.out.good e he)) HC4.out HM4.out (HMv.out.good e he)); clear hB4 he hfe)
              | (go_at_call 26; refine HFG.out.mono ?_; rintro r5 w5 ⟨rfl, hw5⟩; obtain ⟨Q5, hC5, hM5, hf5⟩ := hw5; have HC5 := hide' hC5; have HM5 := hide' hM5; have Hf5 := hide' hf5; clear hC5 hM5 hf5))
            go_roundw
            case rel => exact ⟨n + 1, _, Q5, ⟨S1, HD.out, HGt.out, e, HE.out, HFE.out, rfl⟩, HC5.out, HM5.out, (HFv.out.trans (Fk.idle HB4.out)).trans Hf5.out⟩
            case measure =>
              rw [HM5.out.lenM, HM.out.lenM]
              have h1 := outK_len (key := Ce.key) (x := e.key) HM4.out.nodup
              rw [atK_mem HM4.out.nodup HE.out] at h1
              simp at h1
              omega
          · have HGt := hide' hgt
            obtain ⟨wv, hwv⟩ : ∃ wv, wr.drew = wv := ⟨_, rfl⟩
            have HGv : Hid (wr.grownBy wv none) := hwv ▸ ⟨rfl, rfl, rfl, Nat.le_refl _, fun _ _ _ => rfl⟩
            have HCv := hide' (HC.out.idle HGv.out)
            have HMv : Hid (Emap wv M S1) := Lmap.kept HM.out HGv.out (by simp)
            have HHv : Hid (wv.cell? ⟨L, 2, none⟩ = some (.map (some M)) ∧ wv.cell? ⟨L, 0, none⟩ = some (.int .i64 most) ∧ (Builtin.len_ #[47] 3 #[.map (some M)]).run Tryz.prog wv = .ok (.int .i64 (S1.length : Int)) wv) := ⟨HCv.out.bx.cell (j := 2) rfl, HCv.out.bx.cell (j := 0) rfl, Lmap.len HMv.out Tryz.underlying47 _⟩
            have HFv : Hid (Fk (FK M P) base w wv) := HF.out.trans (Fk.idle HGv.out)
            go_wp2_with fail
            refine wp_region_held_drew (S := fun V => V.cell? ⟨L, 2, none⟩ = some (.map (some M)) ∧ V.cell? ⟨L, 0, none⟩ = some (.int .i64 most) ∧ (Builtin.len_ #[47] 3 #[.map (some M)]).run Tryz.prog V = .ok (.int .i64 (S1.length : Int)) V) (by kernel_rfl) ?_ (fun hHeld => ?_)
            · rw [hwv]; exact HHv.out
            refine takeD 0 (some 33) (.pointer (some ⟨L, 0, none⟩)) rfl rfl (by kernel_rfl) (by kernel_rfl) (by kernel_rfl) (fun _ _ _ h => h) (Or.inl ⟨by rfl, ?_⟩) (by assumption) ?_
            · intro w hSw; (try dsimp only at hSw); obtain ⟨c2, c0, hl⟩ := hSw; go_simp <;> (intros; omega)
            simp only [Act.put, List.setIfInBounds_toArray, List.set_cons_zero, List.set_cons_succ]
            refine takeD 1 (some 34) (.pointer (some ⟨L, 0, none⟩)) rfl rfl (by kernel_rfl) (by kernel_rfl) (by kernel_rfl) (fun _ _ _ h => h) (Or.inl ⟨by rfl, ?_⟩) (by assumption) ?_
            · intro w hSw; (try dsimp only at hSw); obtain ⟨c2, c0, hl⟩ := hSw; go_simp <;> (intros; omega)
            simp only [Act.put, List.setIfInBounds_toArray, List.set_cons_zero, List.set_cons_succ]
            refine takeD 2 (some 35) (.pointer (some ⟨L, 2, none⟩)) rfl rfl (by kernel_rfl) (by kernel_rfl) (by kernel_rfl) (fun _ _ _ h => h) (Or.inl ⟨by rfl, ?_⟩) (by assumption) ?_
            · intro w hSw; (try dsimp only at hSw); obtain ⟨c2, c0, hl⟩ := hSw; go_simp <;> (intros; omega)
            simp only [Act.put, List.setIfInBounds_toArray, List.set_cons_zero, List.set_cons_succ]
            refine takeD 3 (some 36) (.map (some M)) rfl rfl (by kernel_rfl) (by kernel_rfl) (by kernel_rfl) (fun _ _ _ h => h) (Or.inl ⟨by rfl, ?_⟩) (by assumption) ?_
            · intro w hSw; (try dsimp only at hSw); obtain ⟨c2, c0, hl⟩ := hSw; go_simp <;> (intros; omega)
            simp only [Act.put, List.setIfInBounds_toArray, List.set_cons_zero, List.set_cons_succ]
            refine takeD 4 (some 37) (.int .i64 (S1.length : Int)) rfl rfl (by kernel_rfl) (by kernel_rfl) (by kernel_rfl) (fun _ _ _ h => h) (Or.inl ⟨by rfl, ?_⟩) (by assumption) ?_
            · intro w hSw; (try dsimp only at hSw); obtain ⟨c2, c0, hl⟩ := hSw; go_simp <;> (intros; omega)
            simp only [Act.put, List.setIfInBounds_toArray, List.set_cons_zero, List.set_cons_succ]
            refine takeD 5 (some 38) (.pointer (some ⟨L, 0, none⟩)) rfl rfl (by kernel_rfl) (by kernel_rfl) (by kernel_rfl) (fun _ _ _ h => h) (Or.inl ⟨by rfl, ?_⟩) (by assumption) ?_
            · intro w hSw; (try dsimp only at hSw); obtain ⟨c2, c0, hl⟩ := hSw; go_simp <;> (intros; omega)
            simp only [Act.put, List.setIfInBounds_toArray, List.set_cons_zero, List.set_cons_succ]
            refine takeD 6 (some 39) (.pointer (some ⟨L, 0, none⟩)) rfl rfl (by kernel_rfl) (by kernel_rfl) (by kernel_rfl) (fun _ _ _ h => h) (Or.inl ⟨by rfl, ?_⟩) (by assumption) ?_
            · intro w hSw; (try dsimp only at hSw); obtain ⟨c2, c0, hl⟩ := hSw; go_simp <;> (intros; omega)
            simp only [Act.put, List.setIfInBounds_toArray, List.set_cons_zero, List.set_cons_succ]
            refine takeD 7 (some 40) (.pointer (some ⟨L, 0, none⟩)) rfl rfl (by kernel_rfl) (by kernel_rfl) (by kernel_rfl) (fun _ _ _ h => h) (Or.inl ⟨by rfl, ?_⟩) (by assumption) ?_
            · intro w hSw; (try dsimp only at hSw); obtain ⟨c2, c0, hl⟩ := hSw; go_simp <;> (intros; omega)
            simp only [Act.put, List.setIfInBounds_toArray, List.set_cons_zero, List.set_cons_succ]
            refine takeD 8 (some 41) (.int .i64 most) rfl rfl (by kernel_rfl) (by kernel_rfl) (by kernel_rfl) (fun _ _ _ h => h) (Or.inl ⟨by rfl, ?_⟩) (by assumption) ?_
            · intro w hSw; (try dsimp only at hSw); obtain ⟨c2, c0, hl⟩ := hSw; go_simp <;> (intros; omega)
            simp only [Act.put, List.setIfInBounds_toArray, List.set_cons_zero, List.set_cons_succ]
            refine takeD 9 (some 42) (.bool false) rfl rfl (by kernel_rfl) (by kernel_rfl) (by kernel_rfl) (fun _ _ _ h => h) (Or.inl ⟨by rfl, ?_⟩) (by assumption) ?_
            · intro w hSw; (try dsimp only at hSw); obtain ⟨c2, c0, hl⟩ := hSw; go_simp <;> (intros; omega)
            simp only [Act.put, List.setIfInBounds_toArray, List.set_cons_zero, List.set_cons_succ]
            refine wpAnyH_done (by kernel_rfl) ?_ _
            clear hHeld
            try rw [hwv]
            clear hwv
            go_wp2_with fail
            go_end0
            exact ⟨rfl, S1, Q2, .inr ⟨(by first | exact HLe.out | exact Int.not_le.1 HLe.out), (by first | exact HGt.out | exact Int.not_lt.1 HGt.out), n, HD.out⟩, HCv.out, HMv.out, HFv.out.wide fk_fc⟩
      · have HR1 := hide' hr1
        have HC1 : Hid (Cac w1 L M P base most came (cutF (fun e => !decide (e.fin > now)) left S) Q1) := by
          obtain ⟨x, y, z, u, hi⟩ := HR.out.isIter
          exact HC.out.iter hi hg1
        have HF1 : Hid (Fk (FK M P) base w w1) := HF.out.fresh hg1 HIt.out
        have HAm : Hid (a ∈ S) := cutF_sub.mem ha
        have hba := (HC1.out.en a ha).1
        have HLt : Hid (cnt1 < cnt) := hlt
        have hml := HR.out.left_eq
        have HM0 := hide' hml
        obtain ⟨w2, hw2⟩ : ∃ w2, w1.alloc (.cells #[.int .i64 a.key.1, .string a.key.2.1, .int .i64 a.key.2.2.1, .string a.key.2.2.2] 57) = w2 := ⟨_, rfl⟩
        have HG2 : Hid (w1.grownBy w2 none) := hw2 ▸ World.grownBy_alloc w1 _ none
        have hkb : Bx w2 w1.heap.size #[.int .i64 a.key.1, .string a.key.2.1, .int .i64 a.key.2.2.1, .string a.key.2.2.2] 57 := hw2 ▸ alloc_key w1 a.key
        have HC2 := hide' (HC1.out.idle HG2.out)
        have HR2 : Hid (Erng w2 M rb (fun x => left x && !x.sameKey (kyL a.key)) cnt1 (cutF (fun e => !decide (e.fin > now)) left S)) := Lrng.kept HR1.out HG2.out (by simp) (by simp)
        have HF2 : Hid (Fk (FK M P) base w w2) := HF1.out.trans (Fk.idle HG2.out)
        have hba2 := hba.grown HG2.out (by simp)
        have HKX : Hid (kyG a.key) := HG.out a HAm.out
        have HFG := hide' (forget_any (I := fun V T => ∃ c, c ≤ cnt1 ∧ Erng V M rb (fun x => left x && !x.sameKey (kyL a.key)) c T) (mvR M rb cnt1 HKX.out left_once) HC2.out ⟨cnt1, Nat.le_refl _, HR2.out⟩ HKX.out)
        have hkv : kyV a.key = .agg #[.int .i64 a.key.1, .string a.key.2.1, .int .i64 a.key.2.2.1, .string a.key.2.2.2] := rfl
        rw [hkv] at HFG
        have HKK : Hid ((w2.cell? ⟨w1.heap.size, 0, none⟩ = some (.int .i64 a.key.1)) ∧ (w2.cell? ⟨w1.heap.size, 1, none⟩ = some (.string a.key.2.1)) ∧ (w2.cell? ⟨w1.heap.size, 2, none⟩ = some (.int .i64 a.key.2.2.1)) ∧ (w2.cell? ⟨w1.heap.size, 3, none⟩ = some (.string a.key.2.2.2))) := ⟨hkb.cell rfl, hkb.cell rfl, hkb.cell rfl, hkb.cell rfl⟩
        unfold kyV at hrun hen
        clear hr1 hg1 hs1 hlt ha hla hml hba hkb hkv
        have HIA := hide' (isAlive_some now w2 a hba2)
        clear hba2
        unfold peV at *
        by_cases hf : a.fin > now
        · rw [decide_eq_true hf] at HIA
          have hk := cutF_keep (g := fun e => !decide (e.fin > now)) (left := left) HG.out HN.out HAm.out (by simp; exact hf)
          have HC5 : Hid (Cac w2 L M P base most came (cutF (fun e => !decide (e.fin > now)) (fun x => left x && !x.sameKey (kyL a.key)) S) Q1) := hk ▸ HC2.out
          have HR5 : Hid (Erng w2 M rb (fun x => left x && !x.sameKey (kyL a.key)) cnt1 (cutF (fun e => !decide (e.fin > now)) (fun x => left x && !x.sameKey (kyL a.key)) S)) := hk ▸ HR2.out
          clear hk hf
          go_wp2_with (go_at_call 19; refine HIA.out.mono ?_; rintro r3 w3 ⟨rfl, hw3⟩; have hw3' := hw3.symm; subst hw3')
          go_roundw
          case rel => exact ⟨_, cnt1, Q1, HR5.out, HC5.out, HF2.out⟩
          case measure => rw [HM0.out, HR5.out.left_eq]; exact HLt.out
        · rw [decide_eq_false hf] at HIA
          have hk := cutF_drop (g := fun e => !decide (e.fin > now)) (left := left) HG.out HN.out HAm.out (by simp; exact Int.not_lt.1 hf)
          have HK := hide' hk
          obtain ⟨x0, x1, x2, x3⟩ := HKK.out
          clear hk hf
          go_wp2_with (first
            | (go_at_call 19; refine HIA.out.mono ?_; rintro r3 w3 ⟨rfl, hw3⟩; have hw3' := hw3.symm; subst hw3')
            | (go_at_call 26; refine HFG.out.mono ?_; rintro r5 w5 ⟨rfl, hw5⟩; obtain ⟨Q5, hC5, hR5, hf5⟩ := hw5; obtain ⟨cnt5, hc5, hR5⟩ := hR5; have HC5 := hide' hC5; have HR5 := hide' hR5; have Hf5 := hide' hf5; have Hc5 := hide' hc5; clear hC5 hR5 hf5 hc5))
          go_roundw
          case rel => exact ⟨_, cnt5, Q5, HK.out ▸ HR5.out, HK.out ▸ HC5.out, HF2.out.trans Hf5.out⟩
          case measure => rw [HM0.out, HR5.out.left_eq]; exact Nat.lt_of_le_of_lt Hc5.out HLt.out
end Go.Proofs.YtgekfhghambacaaGreat
