import Derived.Test.YtjnmbgmdkkiidaaGreatWu1G
import Derived.Test.YtjnmbgmdkkiidaaGreatOw1G
import Derived.Test.YtjnmbgmdkkiidaaGreatPk5G
import Derived.Test.YtjnmbgmdkkiidaaGreatRc1G
namespace Go.Proofs.YtjnmbgmdkkiidaaGreat
set_option linter.unusedVariables false
open Go.RowKit Go.Shelf Go.Proofs.YtjnmbgmdkkiidaaGreat.Nm

set_option maxRecDepth 100000 in
set_option maxHeartbeats 1000000 in
/-- wire.shapeOf -/
theorem shapeOf_any (t : Int) (w : World) :
    Calls Tryz.prog 66 #[.int .i64 t] w fun e w' => e = .returned (.agg #[.int .i64 ((shp t).1 : Int), .int .i64 ((shp t).2 : Int)]) ∧ Below w.heap.size w w' := by
  have hB0 : ∀ o : Obj, Below w.heap.size w (w.alloc o) := fun o => (Below.refl _ w).alloc (Nat.le_refl _) o
  by_cases h2 : t = 2
  · subst h2
    go_enter Tryz.func66, Tryz.ntmps66
    go_wp2
    refine bodyPost_ret (v := .agg #[.int .i64 0, .int .i64 1]) (by simp [results, go_sem]) rfl ⟨rfl, hB0 _⟩
  have b2 : (t == 2) = false := by rw [beq_eq_false_iff_ne]; exact h2
  by_cases h5 : t = 5
  · subst h5
    go_enter Tryz.func66, Tryz.ntmps66
    go_wp2
    refine bodyPost_ret (v := .agg #[.int .i64 0, .int .i64 1]) (by simp [results, go_sem]) rfl ⟨rfl, hB0 _⟩
  have b5 : (t == 5) = false := by rw [beq_eq_false_iff_ne]; exact h5
  by_cases h12 : t = 12
  · subst h12
    go_enter Tryz.func66, Tryz.ntmps66
    go_wp2
    refine bodyPost_ret (v := .agg #[.int .i64 0, .int .i64 1]) (by simp [results, go_sem]) rfl ⟨rfl, hB0 _⟩
  have b12 : (t == 12) = false := by rw [beq_eq_false_iff_ne]; exact h12
  by_cases h6 : t = 6
  · subst h6
    go_enter Tryz.func66, Tryz.ntmps66
    go_wp2
    refine bodyPost_ret (v := .agg #[.int .i64 0, .int .i64 2]) (by simp [results, go_sem]) rfl ⟨rfl, hB0 _⟩
  have b6 : (t == 6) = false := by rw [beq_eq_false_iff_ne]; exact h6
  by_cases h15 : t = 15
  · subst h15
    go_enter Tryz.func66, Tryz.ntmps66
    go_wp2
    refine bodyPost_ret (v := .agg #[.int .i64 2, .int .i64 1]) (by simp [results, go_sem]) rfl ⟨rfl, hB0 _⟩
  have b15 : (t == 15) = false := by rw [beq_eq_false_iff_ne]; exact h15
  have HE : Hid (shp t = (0, 0)) := by unfold Hid shp; rw [if_neg (by omega), if_neg (by omega), if_neg (by omega)]
  go_enter Tryz.func66, Tryz.ntmps66
  go_wp2
  refine bodyPost_ret (v := .agg #[.int .i64 0, .int .i64 0]) (by simp [results, go_sem]) rfl ⟨by rw [HE.out]; rfl, hB0 _⟩

end Go.Proofs.YtjnmbgmdkkiidaaGreat

namespace Go.Proofs.YtjnmbgmdkkiidaaGreat
set_option linter.unusedVariables false
open Go.RowKit Go.Shelf Go.Maps Go.Proofs.YtjnmbgmdkkiidaaGreat.Nm

/-- texts, one behind the other -/
def cat : List ByteArray → ByteArray
  | [] => .empty
  | x :: l => x ++ cat l
/-- the names of data that may be short: what stands ahead of them, them, what is left -/
structure ShpOK (t : Int) (d : ByteArray) (N : List ByteArray) (r : ByteArray) : Prop where
  names : namesD t d = N
  ok : ∀ n ∈ N, isN n = true
  ahead : (shp t).1 ≤ d.size
  eq : d.extract (shp t).1 d.size = cat N ++ r
  few : N.length ≤ 2
theorem kind_dom_some {d : ByteArray} {n : Nat} (h : kindSize .dom d = some n) : n ≤ d.size ∧ isN (d.extract 0 n) = true := ⟨(domS_some h).1, (domS_some h).2.2.2⟩
theorem ext_two (d : ByteArray) (n : Nat) (h : n ≤ d.size) : d.extract 0 n ++ d.extract n d.size = d := by
  rw [extract_join d 0 n d.size (Nat.zero_le _) h (Nat.le_refl _)]
  apply ByteArray.ext; simp
theorem size_zero_empty {d : ByteArray} (h : d.size = 0) : d = .empty := by
  apply ByteArray.ext
  exact Array.eq_empty_of_size_eq_zero h
theorem partsOf_dom {ks : List Kind} {d : ByteArray} {ps : List (Kind × ByteArray)} (h : partsOf (.dom :: ks) d = some ps) : ∃ n ps', n ≤ d.size ∧ isN (d.extract 0 n) = true ∧ partsOf ks (d.extract n d.size) = some ps' ∧ ps = (.dom, d.extract 0 n) :: ps' := by
  unfold partsOf at h
  cases hk : kindSize .dom d with
  | none => rw [hk] at h; cases h
  | some n =>
    rw [hk] at h
    obtain ⟨ps', h1, h2⟩ := Option.map_eq_some_iff.1 h
    exact ⟨n, ps', (kind_dom_some hk).1, (kind_dom_some hk).2, h1, h2.symm⟩
theorem partsOf_num {m : Nat} {ks : List Kind} {d : ByteArray} {ps : List (Kind × ByteArray)} (h : partsOf (.num m :: ks) d = some ps) : ∃ ps', m ≤ d.size ∧ partsOf ks (d.extract m d.size) = some ps' ∧ ps = (.num m, d.extract 0 m) :: ps' := by
  unfold partsOf at h
  cases hk : kindSize (.num m) d with
  | none => rw [hk] at h; cases h
  | some n =>
    have hn : n = m ∧ m ≤ d.size := by
      have h1 := kindSize_le hk
      have h2 : fixS m d = some n := hk
      unfold fixS at h2
      split at h2
      · cases h2
      · injection h2 with h2; omega
    obtain ⟨rfl, hm⟩ := hn
    rw [hk] at h
    obtain ⟨ps', h1, h2⟩ := Option.map_eq_some_iff.1 h
    exact ⟨ps', hm, h1, h2.symm⟩
theorem partsOf_kinds : ∀ {ks : List Kind} {d : ByteArray} {ps : List (Kind × ByteArray)}, partsOf ks d = some ps → ps.map Prod.fst = ks
  | [], d, ps, h => by
    unfold partsOf at h
    split at h
    · injection h with h; subst h; rfl
    · cases h
  | k :: ks, d, ps, h => by
    unfold partsOf at h
    cases hk : kindSize k d with
    | none => rw [hk] at h; cases h
    | some n =>
      rw [hk] at h
      obtain ⟨ps', h1, h2⟩ := Option.map_eq_some_iff.1 h
      rw [← h2, List.map_cons, partsOf_kinds h1]
theorem namesOf_none {ps : List (Kind × ByteArray)} (h : ∀ p ∈ ps, p.1 ≠ .dom) : namesOf ps = [] := by
  unfold namesOf
  rw [List.filterMap_eq_nil_iff]
  intro p hp
  rw [if_neg (h p hp)]
theorem namesOf_cons (x : ByteArray) (ps : List (Kind × ByteArray)) : namesOf ((.dom, x) :: ps) = x :: namesOf ps := by simp [namesOf]
theorem shp_ok {t : Int} {d : ByteArray} {ps : List (Kind × ByteArray)} (hs : (shp t).2 ≠ 0) (hp : partsD t d = some ps) : ∃ N r, ShpOK t d N r := by
  have hN : namesD t d = namesOf ps := by unfold namesD; rw [hp]
  have hz : ∀ d : ByteArray, d.extract 0 d.size = d := fun d => by apply ByteArray.ext; simp
  unfold partsD at hp
  by_cases h2 : t = 2 ∨ t = 5 ∨ t = 12
  · have hk : kindsOf t = some [.dom] := by rcases h2 with rfl | rfl | rfl <;> rfl
    have hsh : (shp t).1 = 0 := by unfold shp; rw [if_pos h2]
    rw [hk] at hp
    simp only at hp
    split at hp
    · cases hp
    · obtain ⟨n, ps', h1, h3, h4, rfl⟩ := partsOf_dom hp
      refine ⟨[d.extract 0 n], d.extract n d.size, ?_, ?_, by omega, ?_, by simp⟩
      · rw [hN, namesOf_cons, namesOf_none (fun p hp => by have := partsOf_kinds h4; cases ps' with | nil => cases hp | cons a b => cases this)]
      · intro y hy; rw [List.mem_singleton.1 hy]; exact h3
      · rw [hsh, hz]; show d = (d.extract 0 n ++ .empty) ++ _; rw [app_empty, ext_two d n h1]
  · by_cases h6 : t = 6
    · subst h6
      have hp' : (if 65535 < d.size then none else partsOf [.dom, .dom, .num 4, .num 4, .num 4, .num 4, .num 4] d) = some ps := hp
      split at hp'
      · cases hp'
      · obtain ⟨n, ps1, h1, h3, h4, rfl⟩ := partsOf_dom hp'
        obtain ⟨m, ps2, g1, g3, g4, rfl⟩ := partsOf_dom h4
        refine ⟨[d.extract 0 n, (d.extract n d.size).extract 0 m], (d.extract n d.size).extract m (d.extract n d.size).size, ?_, ?_, Nat.zero_le _, ?_, by simp⟩
        · rw [hN, namesOf_cons, namesOf_cons, namesOf_none (fun p hp e => by
            have h5 := partsOf_kinds g4
            have h6 : p.1 ∈ ps2.map Prod.fst := List.mem_map_of_mem hp
            rw [h5, e] at h6
            exact absurd h6 (by decide))]
        · intro y hy
          rcases List.mem_cons.1 hy with rfl | hy
          · exact h3
          · rw [List.mem_singleton.1 hy]; exact g3
        · show d.extract 0 d.size = (d.extract 0 n ++ ((d.extract n d.size).extract 0 m ++ .empty)) ++ _
          rw [hz, app_empty, ByteArray.append_assoc, ext_two (d.extract n d.size) m g1, ext_two d n h1]
    · by_cases h15 : t = 15
      · subst h15
        have hp' : (if 65535 < d.size then none else partsOf [.num 2, .dom] d) = some ps := hp
        split at hp'
        · cases hp'
        · obtain ⟨ps1, h1, h4, rfl⟩ := partsOf_num hp'
          obtain ⟨m, ps2, g1, g3, g4, rfl⟩ := partsOf_dom h4
          refine ⟨[(d.extract 2 d.size).extract 0 m], (d.extract 2 d.size).extract m (d.extract 2 d.size).size, ?_, ?_, h1, ?_, by simp⟩
          · rw [hN]
            show namesOf ((Kind.num 2, _) :: _) = _
            have hd : namesOf ((Kind.num 2, d.extract 0 2) :: (Kind.dom, (d.extract 2 d.size).extract 0 m) :: ps2) = namesOf ((Kind.dom, (d.extract 2 d.size).extract 0 m) :: ps2) := List.filterMap_cons_none (if_neg (show ¬ (Kind.num 2 = Kind.dom) by decide))
            rw [hd, namesOf_cons, namesOf_none (fun p hp => by have := partsOf_kinds g4; cases ps2 with | nil => cases hp | cons a b => cases this)]
          · intro y hy; rw [List.mem_singleton.1 hy]; exact g3
          · show d.extract 2 d.size = ((d.extract 2 d.size).extract 0 m ++ .empty) ++ _
            rw [app_empty, ext_two (d.extract 2 d.size) m g1]
      · exfalso
        apply hs
        unfold shp
        rw [if_neg h2, if_neg h6, if_neg h15]
end Go.Proofs.YtjnmbgmdkkiidaaGreat

namespace Go.Proofs.YtjnmbgmdkkiidaaGreat
set_option linter.unusedVariables false
open Go.RowKit Go.Shelf Go.Maps Go.Proofs.YtjnmbgmdkkiidaaGreat.Nm

def namesP (N : List ByteArray) (s : PS) : PS := N.foldl (fun s n => nameL (labs n) s) s
theorem namesP_snoc (N : List ByteArray) (n : ByteArray) (s : PS) : namesP (N ++ [n]) s = nameL (labs n) (namesP N s) := by simp [namesP]
theorem namesP_ok : ∀ (N : List ByteArray) (s : PS), (∀ n ∈ N, isN n = true) → POk s → POk (namesP N s) ∧ (namesP N s).out.size ≤ s.out.size + (cat N).size ∧ s.out.size ≤ (namesP N s).out.size
  | [], s, _, h => ⟨h, by show s.out.size ≤ _; exact Nat.le_add_right _ _, Nat.le_refl _⟩
  | x :: l, s, hN, h => by
    have h1 := name_pok (hN x List.mem_cons_self) h
    have h2 := name_size (hN x List.mem_cons_self) s
    obtain ⟨h3, h4, h5⟩ := namesP_ok l (nameL (labs x) s) (fun n hn => hN n (List.mem_cons_of_mem _ hn)) h1
    refine ⟨h3, ?_, ?_⟩
    · show (namesP l (nameL (labs x) s)).out.size ≤ s.out.size + (x ++ cat l).size
      rw [ByteArray.size_append]; omega
    · show s.out.size ≤ (namesP l (nameL (labs x) s)).out.size
      omega
/-- (*packer).data -/
def dataP (t : Int) (d : ByteArray) (s : PS) : PS :=
  if d.size = 0 ∨ (shp t).2 = 0 then ⟨s.out ++ d, s.tab⟩ else
    ⟨(namesP (namesD t d) ⟨s.out ++ d.extract 0 (shp t).1, s.tab⟩).out ++ d.extract ((shp t).1 + (cat (namesD t d)).size) d.size, (namesP (namesD t d) ⟨s.out ++ d.extract 0 (shp t).1, s.tab⟩).tab⟩
theorem Pk.below {w w' : World} {P Mb base : Nat} {v : Value} {s : PS} (h : Pk w P Mb base v s) (hb : Below w.heap.size w w') : Pk w' P Mb base v s := h.keep (grown_below hb none) (by simp) (by simp) (fun q e => by cases e)
theorem Fz.below {w w' : World} (P Mb : Nat) (v : Value) (hb : Below w.heap.size w w') : Fz w w' P Mb v := (Fz.refl w P Mb v).step (grown_below hb none) (fun q e => by cases e)

/-- a row beside the packer -/
structure Rw (w : World) (P Mb : Nat) (v : Value) (n e size : Nat) (u : Value) (k : Nat) (xs : List Value) : Prop where
  own : w.ownsRow n e size u k xs
  nP : u.ownBlock ≠ some P
  nM : u.ownBlock ≠ some Mb
  nv : ∀ X, u.ownBlock = some X → v.ownBlock ≠ some X
theorem Rw.new {w w1 : World} {P Mb base e size k : Nat} {v u : Value} {s : PS} {xs : List Value} (h : Pk w P Mb base v s) (hb : Below w.heap.size w w1) (ho : w1.ownsRow w.heap.size e size u k xs) : Rw w1 P Mb v w.heap.size e size u k xs := by
  obtain ⟨l1, l2, l3⟩ := h.lt
  exact ⟨ho, fun e => by have := (ho.lt _ e).1; omega, fun e => by have := (ho.lt _ e).1; omega, fun X e e2 => by have := (ho.lt _ e).1; have := (h.own.lt _ e2).2; omega⟩
theorem Rw.step {w w1 : World} {P Mb n e size k : Nat} {v v1 u : Value} {xs : List Value} (h : Rw w P Mb v n e size u k xs) (hf : Fz w w1 P Mb v) (hl : Loc w v v1) : Rw w1 P Mb v1 n e size u k xs :=
  ⟨own_blk h.own (fun g e => hf.block g (h.own.lt g e).2 (fun e2 => h.nP (e2 ▸ e)) (fun e2 => h.nM (e2 ▸ e)) (h.nv g e)), h.nP, h.nM, fun X e e2 => by
    rcases hl X e2 with e3 | e3
    · exact h.nv X e e3
    · have := (h.own.lt X e).2; omega⟩
theorem cat_take : ∀ (N : List ByteArray) (i : Nat), (cat (N.take i)).size + (cat (N.drop i)).size = (cat N).size
  | [], i => by simp [cat]
  | x :: l, 0 => by simp [cat]
  | x :: l, i + 1 => by
    have := cat_take l i
    show (x ++ cat (l.take i)).size + (cat (l.drop i)).size = (x ++ cat l).size
    rw [ByteArray.size_append, ByteArray.size_append]; omega

set_option maxRecDepth 100000 in
set_option maxHeartbeats 1000000 in
/-- (*packer).data, without names that may be short -/
theorem pdata_plain (P Mb base : Nat) (v : Value) (s : PS) (t : Int) (d : ByteArray) (w : World) (h : Pk w P Mb base v s) (hd : d.size ≤ 65535) (hs : d.size = 0 ∨ (shp t).2 = 0) (hok : POk s) (hz : s.out.size ≤ 1099400000000) :
    Calls Tryz.prog 58 #[.pointer (some ⟨P, 0, none⟩), .int .i64 t, .string d] w (PkE P Mb base v (dataP t d s) w) := by
  have HP := hide' h
  have HD : Hid (dataP t d s = ⟨s.out ++ d, s.tab⟩) := by unfold Hid dataP; rw [if_pos hs]
  have HSh := hide' (fun W => shapeOf_any t W)
  obtain ⟨⟨ah, nm⟩, hsh⟩ : ∃ x, shp t = x := ⟨_, rfl⟩
  rw [hsh] at HSh hs
  simp only at HSh hs
  clear hsh h
  by_cases h0 : d.size = 0
  · have he := isEmpty_true h0
    clear hs
    go_enter Tryz.func58, Tryz.ntmps58
    go_wp2_with (first
      | (go_at_call 66; refine (HSh.out _).mono ?_; rintro e w1 ⟨rfl, hB⟩; have H1 := hide' ((HP.out.below hB).alloc (.cells #[.int .i64 (ah : Int), .int .i64 (nm : Int)] 103)); have HB1 := hide' (Bs.new (HP.out.below hB) #[.int .i64 (ah : Int), .int .i64 (nm : Int)] 103); have HF := hide' ((Fz.below P Mb v hB).trans (Fz.alloc w1 P Mb v (.cells #[.int .i64 (ah : Int), .int .i64 (nm : Int)] 103)) (Loc.refl _ _)); clear hB)
      | (go_at_call 65; refine (wtext_any P Mb base v s d _ H1.out (by omega) (by omega)).mono ?_; rintro e w2 ⟨rfl, v2, r1, r2, r3⟩; have S1 := hide' r1; have S2 := hide' r2; have S3 := hide' r3; clear r1 r2 r3))
    go_end0
    rw [HD.out]
    exact ⟨rfl, v2, S1.out, HF.out.trans S2.out (Loc.refl _ _), (Loc.refl w v).trans HF.out S3.out⟩
  · have he := isEmpty_false (r := d) (by omega)
    have hnm : ((nm : Int) == 0) = true := by rw [beq_iff_eq]; omega
    clear hs
    go_enter Tryz.func58, Tryz.ntmps58
    go_wp2_with (first
      | (go_at_call 66; refine (HSh.out _).mono ?_; rintro e w1 ⟨rfl, hB⟩; have H1 := hide' ((HP.out.below hB).alloc (.cells #[.int .i64 (ah : Int), .int .i64 (nm : Int)] 103)); have HB1 := hide' (Bs.new (HP.out.below hB) #[.int .i64 (ah : Int), .int .i64 (nm : Int)] 103); have HF := hide' ((Fz.below P Mb v hB).trans (Fz.alloc w1 P Mb v (.cells #[.int .i64 (ah : Int), .int .i64 (nm : Int)] 103)) (Loc.refl _ _)); clear hB)
      | (go_at_call 65; refine (wtext_any P Mb base v s d _ H1.out (by omega) (by omega)).mono ?_; rintro e w2 ⟨rfl, v2, r1, r2, r3⟩; have S1 := hide' r1; have S2 := hide' r2; have S3 := hide' r3; clear r1 r2 r3))
    go_end0
    rw [HD.out]
    exact ⟨rfl, v2, S1.out, HF.out.trans S2.out (Loc.refl _ _), (Loc.refl w v).trans HF.out S3.out⟩

set_option maxRecDepth 100000 in
set_option maxHeartbeats 1000000 in
/-- (*packer).data, with names that may be short -/
theorem pdata_names (P Mb base : Nat) (v : Value) (s : PS) (t : Int) (d : ByteArray) (N : List ByteArray) (r : ByteArray) (w : World) (h : Pk w P Mb base v s) (hd : d.size ≤ 65535) (h0 : d.size ≠ 0) (hs : (shp t).2 ≠ 0) (hS : ShpOK t d N r) (hok : POk s) (hz : s.out.size ≤ 1099400000000) :
    Calls Tryz.prog 58 #[.pointer (some ⟨P, 0, none⟩), .int .i64 t, .string d] w (PkE P Mb base v (dataP t d s) w) := by
  have HP := hide' h
  have HSh := hide' (fun W => shapeOf_any t W)
  have HNm := hide' (fun W => names_any t d W (by omega))
  have hS1 := hS.names
  have hS2 := hS.ok
  have hS3 := hS.ahead
  have hS4 := hS.eq
  have hS5 := hS.few
  rw [hS1] at HNm
  have HD : Hid (dataP t d s = ⟨(namesP N ⟨s.out ++ d.extract 0 (shp t).1, s.tab⟩).out ++ r, (namesP N ⟨s.out ++ d.extract 0 (shp t).1, s.tab⟩).tab⟩) := by
    unfold Hid dataP
    rw [if_neg (by omega), hS1]
    have hf : From d (shp t).1 (cat N ++ r) := ⟨hS4.symm⟩
    have h1 := hf.size
    have h2 := hf.extract (cat N).size (cat N ++ r).size hS3 (Nat.le_refl _)
    rw [extract_right, show (shp t).1 + (cat N ++ r).size = d.size by omega] at h2
    rw [← h2]
  obtain ⟨⟨ah, nm⟩, hsh⟩ : ∃ x, shp t = x := ⟨_, rfl⟩
  rw [hsh] at HSh hs hS3 hS4 HD
  simp only at HSh hs hS3 hS4 HD
  have he := isEmpty_false (r := d) (by omega)
  have hnm : ((nm : Int) == 0) = false := by rw [beq_eq_false_iff_ne]; omega
  clear hsh h hS
  go_enter Tryz.func58, Tryz.ntmps58
  go_wp2_with (go_at_call 66; refine (HSh.out _).mono ?_; rintro e w1 ⟨rfl, hB⟩; have H1 := hide' ((HP.out.below hB).alloc (.cells #[.int .i64 (ah : Int), .int .i64 (nm : Int)] 103)); have HB1 := hide' (Bs.new (HP.out.below hB) #[.int .i64 (ah : Int), .int .i64 (nm : Int)] 103); have HF := hide' ((Fz.below P Mb v hB).trans (Fz.alloc w1 P Mb v (.cells #[.int .i64 (ah : Int), .int .i64 (nm : Int)] 103)) (Loc.refl _ _)); clear hB)
  have hes : (d.extract 0 ah).size ≤ 1048576 := by simp; omega
  go_region_with (go_at_call 65; refine (wtext_any P Mb base v s (d.extract 0 ah) _ H1.out.drew (by omega) hes).mono ?_; rintro e w2 ⟨rfl, v2, r1, r2, r3⟩; have S1 := hide' r1; have HB2 := hide' (HB1.out.step r2.ofDrew r3.ofDrew); have x2 : w2.cell? ⟨w1.heap.size, 0, none⟩ = some (.int .i64 (ah : Int)) := HB2.out.bx.cell rfl; have HF2 := hide' (HF.out.trans r2.ofDrew (Loc.refl _ _)); have HL2 := hide' ((Loc.refl w v).trans HF.out r3.ofDrew); clear r1 r2 r3)
  go_wp2_with (go_at_call 67; refine (HNm.out _).mono ?_; rintro e w3 ⟨pN, cN, rfl, hoN, hB3⟩; have HO3 := hide' hoN; have S3 := hide' (S1.out.below hB3); have HF3 := hide' (HF2.out.trans (Fz.below P Mb v2 hB3) HL2.out); have HL3 := hide' (HL2.out.trans HF2.out (Loc.refl _ _)); have HB3 := hide' hB3; clear hoN hB3)
  have HW3 := hide' (Rw.new S1.out HB3.out HO3.out)
  have hsz0 : (s.out ++ d.extract 0 ah).size ≤ s.out.size + 65535 := by rw [ByteArray.size_append]; simp; omega
  have hcat : (cat N).size ≤ 65535 := by
    have := congrArg ByteArray.size hS4
    rw [ByteArray.size_append] at this
    simp at this
    omega
  have hrsz : r.size ≤ 65535 := by
    have := congrArg ByteArray.size hS4
    rw [ByteArray.size_append] at this
    simp at this
    omega
  have hok0 : POk ⟨s.out ++ d.extract 0 ah, s.tab⟩ := hok.more _
  obtain ⟨s0, hs0⟩ : ∃ s0 : PS, ⟨s.out ++ d.extract 0 ah, s.tab⟩ = s0 := ⟨_, rfl⟩
  have hs0z : s0.out.size ≤ s.out.size + 65535 := hs0 ▸ hsz0
  rw [hs0] at HD S3 hok0
  have HOK := hide' (fun i : Nat => namesP_ok (N.take i) s0 (fun n hn => hS2 n (List.mem_of_mem_take hn)) hok0)
  have HCT := hide' (fun i : Nat => cat_take N i)
  clear hs0 S1 HB1 HB2 HO3 HB3 H1 HF x2 HF2 HL2 hS4 hsz0
  go_loopw [7, 40] (fun rv iv wr => ∃ (i : Nat) (v' : Value), iv = .int .i64 (i : Int) ∧ rv = .string (cat (N.drop i) ++ r) ∧ i ≤ N.length ∧ Hid (Pk wr P Mb base v' (namesP (N.take i) s0)) ∧ Hid (Fz w wr P Mb v) ∧ Hid (Loc w v v') ∧ Hid (Rw wr P Mb v' w2.heap.size 9 1 (.slice pN N.length cN) N.length (N.map Value.string))) (fun _ iv _ => N.length - (intOf iv).toNat)
  case atStart => exact ⟨0, v2, rfl, rfl, Nat.zero_le _, S3, HF3, HL3, HW3⟩
  case round =>
    clear S3 HF3 HL3 HW3
    obtain ⟨i, v', rfl, rfl, hi, H, HF, HL, HW⟩ := hrel
    have hbd := HOK.out i
    have hct := HCT.out i
    by_cases hlt : i < N.length
    · obtain ⟨g, rfl⟩ : ∃ g, pN = some ⟨g, 0, none⟩ := by
        rcases HW.out.own.2 with ⟨h1, h0⟩ | ⟨g, cap, cur, h1, _⟩
        · omega
        · injection h1 with h1; exact ⟨g, h1⟩
      obtain ⟨x, hx⟩ : ∃ x, N[i] = x := ⟨_, rfl⟩
      have hcl : wr.cell? ⟨g, i, none⟩ = some (.string x) := by
        have := HW.out.own.cellAt i (by omega)
        rw [this, List.getElem?_map, List.getElem?_eq_getElem hlt, hx]; rfl
      obtain ⟨Y, hY⟩ : ∃ Y, cat (N.drop (i + 1)) ++ r = Y := ⟨_, rfl⟩
      have hxy : cat (N.drop i) ++ r = x ++ Y := by
        rw [List.drop_eq_getElem_cons hlt, hx, ← hY]; show (x ++ _) ++ _ = _; rw [ByteArray.append_assoc]
      have hxN := hS2 x (hx ▸ List.getElem_mem hlt)
      have HNx : Hid (namesP (N.take (i + 1)) s0 = nameL (labs x) (namesP (N.take i) s0)) := by
        unfold Hid; rw [List.take_succ_eq_append_getElem hlt, hx, namesP_snoc]
      have hxr : (x ++ Y).extract x.size (x.size + Y.size) = Y := by have := extract_right x Y; rw [ByteArray.size_append] at this; exact this
      have hxs : (x ++ Y).size = x.size + Y.size := ByteArray.size_append
      have hxz : x.size ≤ 255 := ((isN_iff x).1 hxN).1
      have hYz : Y.size ≤ 131070 := by rw [← hY, ByteArray.size_append]; have := HCT.out (i + 1); omega
      rw [hxy]
      go_wp2_with (go_at_call 57; refine (pname_any P Mb base v' _ x _ H.out hxN hbd.1.1 (by have := hbd.1.2; omega) (by omega)).mono ?_; rintro e w7 ⟨rfl, v7, r1, r2, r3⟩; have R1 := hide' r1; have R2 := hide' r2; have R3 := hide' r3; clear r1 r2 r3)
      go_roundw
      case rel => exact ⟨i + 1, v7, by go_num, by rw [hY], hlt, by unfold Hid; rw [HNx.out]; exact R1.out, HF.out.trans R2.out HL.out, HL.out.trans HF.out R3.out, HW.out.step R2.out R3.out⟩
      case measure => simp [intOf]; omega
    · obtain rfl : i = N.length := by omega
      have hrr : cat (N.drop N.length) ++ r = r := by rw [List.drop_length]; exact empty_app r
      rw [List.take_length] at H hbd
      rw [hrr]
      go_wp2_with (go_at_call 65; refine (wtext_any P Mb base v' _ r _ H.out (by omega) (by omega)).mono ?_; rintro e w7 ⟨rfl, v7, r1, r2, r3⟩; have R1 := hide' r1; have R2 := hide' r2; have R3 := hide' r3; clear r1 r2 r3)
      go_end0
      rw [HD.out]
      exact ⟨rfl, v7, R1.out, HF.out.trans R2.out HL.out, HL.out.trans HF.out R3.out⟩
end Go.Proofs.YtjnmbgmdkkiidaaGreat

namespace Go.Proofs.YtjnmbgmdkkiidaaGreat
set_option linter.unusedVariables false
open Go.RowKit Go.Shelf Go.Maps Go.Proofs.YtjnmbgmdkkiidaaGreat.Nm

/-- data whose names stand as they should -/
def DatOK (t : Int) (d : ByteArray) : Prop := d.size ≤ 65535 ∧ (d.size = 0 ∨ (shp t).2 = 0 ∨ ∃ N r, ShpOK t d N r)
theorem datOK_of {t c : Int} {d : ByteArray} (h : dataOK t c d = true) : DatOK t d := by
  unfold dataOK at h
  by_cases h41 : t = 41
  · rw [if_pos h41] at h
    exact ⟨of_decide_eq_true h, .inr (.inl (by rw [h41]; rfl))⟩
  · rw [if_neg h41] at h
    by_cases h0 : d.size = 0 ∧ (c = 254 ∨ c = 255)
    · exact ⟨by omega, .inl h0.1⟩
    · rw [if_neg h0] at h
      obtain ⟨ps, hp⟩ := errD_zero (of_decide_eq_true h)
      refine ⟨(parts_few hp).2, ?_⟩
      by_cases hs : (shp t).2 = 0
      · exact .inr (.inl hs)
      · exact .inr (.inr (shp_ok hs hp))
theorem dataP_ok {t : Int} {d : ByteArray} (hd : DatOK t d) {s : PS} (h : POk s) : POk (dataP t d s) ∧ (dataP t d s).out.size ≤ s.out.size + d.size ∧ s.out.size ≤ (dataP t d s).out.size := by
  unfold dataP
  by_cases hc : d.size = 0 ∨ (shp t).2 = 0
  · rw [if_pos hc]
    refine ⟨h.more d, ?_, ?_⟩
    · show (s.out ++ d).size ≤ _; rw [ByteArray.size_append]; exact Nat.le_refl _
    · show _ ≤ (s.out ++ d).size; rw [ByteArray.size_append]; omega
  · rw [if_neg hc]
    obtain ⟨N, r, hS⟩ : ∃ N r, ShpOK t d N r := by
      rcases hd.2 with h1 | h1 | h1
      · exact absurd (.inl h1) hc
      · exact absurd (.inr h1) hc
      · exact h1
    rw [hS.names]
    obtain ⟨h1, h2, h3⟩ := namesP_ok N ⟨s.out ++ d.extract 0 (shp t).1, s.tab⟩ hS.ok (h.more _)
    have ha := hS.ahead
    have he := congrArg ByteArray.size hS.eq
    rw [ByteArray.size_append] at he
    have e1 : (d.extract 0 (shp t).1).size = (shp t).1 := by simp; omega
    have e2 : (d.extract (shp t).1 d.size).size = d.size - (shp t).1 := by simp
    have e3 : (d.extract ((shp t).1 + (cat N).size) d.size).size = d.size - ((shp t).1 + (cat N).size) := by simp
    have e4 : (PS.mk (s.out ++ d.extract 0 (shp t).1) s.tab).out.size = s.out.size + (shp t).1 := by show (s.out ++ _).size = _; rw [ByteArray.size_append, e1]
    rw [e4] at h2 h3
    refine ⟨h1.more _, ?_, ?_⟩
    · show (_ ++ _ : ByteArray).size ≤ _; rw [ByteArray.size_append, e3]; omega
    · show _ ≤ (_ ++ _ : ByteArray).size; rw [ByteArray.size_append]; omega
/-- (*packer).data -/
theorem pdata_any (P Mb base : Nat) (v : Value) (s : PS) (t : Int) (d : ByteArray) (w : World) (h : Pk w P Mb base v s) (hd : DatOK t d) (hok : POk s) (hz : s.out.size ≤ 1099400000000) :
    Calls Tryz.prog 58 #[.pointer (some ⟨P, 0, none⟩), .int .i64 t, .string d] w (PkE P Mb base v (dataP t d s) w) := by
  by_cases hc : d.size = 0 ∨ (shp t).2 = 0
  · exact pdata_plain P Mb base v s t d w h hd.1 hc hok hz
  · obtain ⟨N, r, hS⟩ : ∃ N r, ShpOK t d N r := by
      rcases hd.2 with h1 | h1 | h1
      · exact absurd (.inl h1) hc
      · exact absurd (.inr h1) hc
      · exact h1
    exact pdata_names P Mb base v s t d N r w h hd.1 (fun e => hc (.inl e)) (fun e => hc (.inr e)) hS hok hz
/-- a record up to its data's length -/
def recH (o : ByteArray) (t c l : Nat) (s : PS) : PS := ⟨(quesP o t c s).out ++ numB l 4 ++ numB 0 2, (quesP o t c s).tab⟩
/-- (*packer).record -/
def recP (o : ByteArray) (t c l : Nat) (d : ByteArray) (s : PS) : PS :=
  ⟨putAt (dataP t d (recH o t c l s)).out ((recH o t c l s).out.size - 2) [((dataP t d (recH o t c l s)).out.size - (recH o t c l s).out.size) / 256, ((dataP t d (recH o t c l s)).out.size - (recH o t c l s).out.size) % 256], (dataP t d (recH o t c l s)).tab⟩
theorem recH_size (o : ByteArray) (t c l : Nat) (s : PS) : (recH o t c l s).out.size = (nameL (labs o) s).out.size + 10 := by
  unfold recH
  show ((_ ++ _) ++ _ : ByteArray).size = _
  rw [ByteArray.size_append, ByteArray.size_append, numB_size, numB_size, quesP_size]
theorem recH_pok {o : ByteArray} (ho : isN o = true) (t c l : Nat) {s : PS} (h : POk s) : POk (recH o t c l s) := ((quesP_pok ho t c h).more _).more _
theorem recP_size (o : ByteArray) (t c l : Nat) (d : ByteArray) (s : PS) : (recP o t c l d s).out.size = (dataP t d (recH o t c l s)).out.size := putAt_size _ _ _
theorem recP_pok {o : ByteArray} (ho : isN o = true) (t c l : Nat) {d : ByteArray} (hd : DatOK t d) {s : PS} (h : POk s) : POk (recP o t c l d s) :=
  ⟨(dataP_ok hd (recH_pok ho t c l h)).1.1, by show _ ≤ (recP o t c l d s).out.size; rw [recP_size]; exact (dataP_ok hd (recH_pok ho t c l h)).1.2⟩

set_option maxRecDepth 100000 in
set_option maxHeartbeats 1000000 in
/-- (*packer).record -/
theorem precord_any (P Mb base : Nat) (v : Value) (s : PS) (o : ByteArray) (t c l : Nat) (d : ByteArray) (w : World) (h : Pk w P Mb base v s) (ho : isN o = true) (htt : t < 65536) (hcc : c < 65536) (hll : l < 4294967296) (hd : DatOK t d) (hok : POk s) (hz : s.out.size ≤ 1099300000000) :
    Calls Tryz.prog 41 #[.pointer (some ⟨P, 0, none⟩), .agg #[.string o, .int .i64 (t : Int), .int .i64 (c : Int), .int .i64 (l : Int), .string d]] w (PkE P Mb base v (recP o t c l d s) w) := by
  have HP := hide' (h.alloc (.cells #[.string o, .int .i64 (t : Int), .int .i64 (c : Int), .int .i64 (l : Int), .string d] 59))
  have HB := hide' (Bs.new h #[.string o, .int .i64 (t : Int), .int .i64 (c : Int), .int .i64 (l : Int), .string d] 59)
  have HF := hide' (Fz.alloc w P Mb v (.cells #[.string o, .int .i64 (t : Int), .int .i64 (c : Int), .int .i64 (l : Int), .string d] 59))
  have HL := hide' (Loc.refl w v)
  have hs1 := (name_size ho s).1
  have hsz : o.size ≤ 255 := ((isN_iff o).1 ho).1
  have hq := quesP_size o t c s
  obtain ⟨s2, hs2⟩ : ∃ s2, recH o t c l s = s2 := ⟨_, rfl⟩
  obtain ⟨s3, hs3⟩ : ∃ s3, dataP t d s2 = s3 := ⟨_, rfl⟩
  have hok2 : POk s2 := hs2 ▸ recH_pok ho t c l hok
  have hsz2 : s2.out.size = (nameL (labs o) s).out.size + 10 := hs2 ▸ recH_size o t c l s
  obtain ⟨hok3, hd1, hd2⟩ := dataP_ok hd hok2
  rw [hs3] at hok3 hd1 hd2
  have hd65 := hd.1
  obtain ⟨k, hk⟩ : ∃ k : Nat, s2.out.size - 2 = k := ⟨_, rfl⟩
  obtain ⟨n, hn⟩ : ∃ n : Nat, s3.out.size - s2.out.size = n := ⟨_, rfl⟩
  have hA : (s2.out.size : Int) - 2 = (k : Int) := by omega
  have hB : (s3.out.size : Int) - (s2.out.size : Int) = (n : Int) := by omega
  have hz2 : s2.out.size ≤ 1099300000300 := by omega
  have hn6 : n < 65536 := by omega
  have hk3 : k + 2 ≤ s3.out.size := by omega
  have HR : Hid (recP o t c l d s = ⟨putAt s3.out k [n / 256, n % 256], s3.tab⟩) := by unfold Hid recP; rw [hs2, hs3, hk, hn]
  have HWk : Hid (IntKind.i64.wrap (k : Int) = (k : Int)) := by unfold Hid; rw [IntKind.wrap_i64]; omega
  have HWn : Hid (IntKind.i64.wrap (n : Int) = (n : Int)) := by unfold Hid; rw [IntKind.wrap_i64]; omega
  have HS2 := hide' hs2
  have HS3 := hide' hs3
  clear h hs2 hs3 hsz2 hk hn
  go_enter Tryz.func41, Tryz.ntmps41
  go_wp2_with (go_at_call 40; refine (pquestion_any P Mb base v s o t c _ HP.out ho htt hcc hok (by omega)).mono ?_; rintro e w1 ⟨rfl, v1, r1, r2, r3⟩; have R1 := hide' r1; have HB1 := hide' (HB.out.step r2 r3); have q1 : w1.cell? ⟨w.heap.size, 3, none⟩ = some (.int .i64 (l : Int)) := HB1.out.bx.cell rfl; have HF1 := hide' (HF.out.trans r2 HL.out); have HL1 := hide' (HL.out.trans HF.out r3); clear r1 r2 r3)
  go_region_with (go_at_call 55; refine (wnum4_any P Mb base v1 _ l _ R1.out.drew (by omega) hll).mono ?_; rintro e w2 ⟨rfl, v2, r1, r2, r3⟩; have S1 := hide' r1; have HB2 := hide' (HB1.out.step r2.ofDrew r3.ofDrew); have HF2 := hide' (HF1.out.trans r2.ofDrew HL1.out); have HL2 := hide' (HL1.out.trans HF1.out r3.ofDrew); clear r1 r2 r3)
  go_wp2_with (go_at_call 55; refine (wnum2_any P Mb base v2 _ 0 _ S1.out (by show ByteArray.size (_ ++ _) ≤ _; rw [ByteArray.size_append, numB_size]; omega) (by decide)).mono ?_; rintro e w3 ⟨rfl, v3, r1, r2, r3⟩; have T1 : Hid (Pk w3 P Mb base v3 s2) := HS2.out ▸ r1; obtain ⟨p3, c3, rfl, _⟩ := own_shape T1.out.own; have x3 := T1.out.c0; have HB3 := hide' (HB2.out.step r2 r3); have q3 : w3.cell? ⟨w.heap.size, 1, none⟩ = some (.int .i64 (t : Int)) := HB3.out.bx.cell rfl; have q4 : w3.cell? ⟨w.heap.size, 4, none⟩ = some (.string d) := HB3.out.bx.cell rfl; have HF3 := hide' (HF2.out.trans r2 HL2.out); have HL3 := hide' (HL2.out.trans HF2.out r3); clear r1 r2 r3)
  go_wp2_with (go_at_call 58; refine (pdata_any P Mb base _ s2 t d _ T1.out hd hok2 (by omega)).mono ?_; rintro e w4 ⟨rfl, v4, r1, r2, r3⟩; have U1 : Hid (Pk w4 P Mb base v4 s3) := HS3.out ▸ r1; obtain ⟨p4, c4, rfl, _⟩ := own_shape U1.out.own; have x4 := U1.out.c0; have HF4 := hide' (HF3.out.trans r2 HL3.out); have HL4 := hide' (HL3.out.trans HF3.out r3); clear r1 r2 r3)
  go_region_with (go_at_call 59; rw [HWk.out, HWn.out]; refine (wset2_any P Mb base _ s3 k n _ U1.out.drew (by omega) hk3 hn6).mono ?_; rintro e w5 ⟨rfl, v5, r1, r2, r3⟩; have V1 := hide' r1; have HF5 := hide' (HF4.out.trans r2.ofDrew HL4.out); have HL5 := hide' (HL4.out.trans HF4.out r3.ofDrew); clear r1 r2 r3)
  go_wp2
  go_end0
  rw [HR.out]
  exact ⟨rfl, v5, V1.out, HF5.out, HL5.out⟩
end Go.Proofs.YtjnmbgmdkkiidaaGreat
