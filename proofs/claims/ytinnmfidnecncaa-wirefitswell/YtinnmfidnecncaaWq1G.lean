import Derived.Test.YtinnmfidnecncaaPk1
import Derived.Test.YtinnmfidnecncaaWu1G
import Derived.Test.YtinnmfidnecncaaPk11G
/-
  Plain facts: what is written of a name is read as that name. (The verifier's own text.)
-/
namespace Go.Proofs.Ytinnmfidnecncaa.Nm
set_option linter.unusedVariables false

/-- a is the beginning of B -/
def Pf (a B : ByteArray) : Prop := ∃ x, B = a ++ x
theorem Pf.size {a B : ByteArray} (h : Pf a B) : a.size ≤ B.size := by
  obtain ⟨x, rfl⟩ := h; rw [ByteArray.size_append]; omega
theorem Pf.refl (a : ByteArray) : Pf a a := ⟨.empty, by apply ByteArray.ext; simp⟩
theorem Pf.trans {a b c : ByteArray} (h : Pf a b) (g : Pf b c) : Pf a c := by
  obtain ⟨x, rfl⟩ := h
  obtain ⟨y, rfl⟩ := g
  exact ⟨x ++ y, ByteArray.append_assoc⟩
theorem Pf.app (a y : ByteArray) : Pf a (a ++ y) := ⟨y, rfl⟩
theorem Pf.left {a y B : ByteArray} (h : Pf (a ++ y) B) : Pf a B := (Pf.app a y).trans h
theorem Pf.bt {a y B : ByteArray} (h : Pf (a ++ y) B) {i : Nat} (hi : i < y.size) : bt B (a.size + i) = Nm.bt y i := by
  obtain ⟨x, rfl⟩ := h
  rw [bt_append_left _ _ _ (by rw [ByteArray.size_append]; omega), bt_append_right _ _ _ (by omega)]
  congr 1; omega
theorem Pf.ext {a y B : ByteArray} (h : Pf (a ++ y) B) : B.extract a.size (a.size + y.size) = y := by
  obtain ⟨x, rfl⟩ := h
  apply ByteArray.ext; apply Array.ext
  · simp
  · intro i h1 h2; simp
theorem Pf.room {a y B : ByteArray} (h : Pf (a ++ y) B) : a.size + y.size ≤ B.size := by
  have := h.size; rwa [ByteArray.size_append] at this
theorem nameL_pf : ∀ (l : List ByteArray) (s : PS), Pf s.out (nameL l s).out
  | [], s => Pf.app _ _
  | x :: l, s => by
    unfold nameL
    cases e : tabF s.tab (putB (x :: l)) with
    | some p => exact Pf.app _ _
    | none => exact (Pf.app s.out (chunk x)).trans (nameL_pf l _)
theorem numB2_bt (v : Nat) : bt (numB v 2) 0 = v / 256 % 256 ∧ bt (numB v 2) 1 = v % 256 := by
  have e : numB v 2 = bts [v / 256 % 256, v % 256] := by simp [numB, List.range, List.range.loop]
  have h : ∀ x ∈ [v / 256 % 256, v % 256], x < 256 := by
    intro x hx
    simp at hx
    rcases hx with rfl | rfl <;> omega
  rw [e]
  exact ⟨bts_bt _ h 0 (by simp), bts_bt _ h 1 (by simp)⟩
theorem numB4_bt (v : Nat) : bt (numB v 4) 0 = v / 16777216 % 256 ∧ bt (numB v 4) 1 = v / 65536 % 256 ∧ bt (numB v 4) 2 = v / 256 % 256 ∧ bt (numB v 4) 3 = v % 256 := by
  have e : numB v 4 = bts [v / 16777216 % 256, v / 65536 % 256, v / 256 % 256, v % 256] := by simp [numB, List.range, List.range.loop]
  have h : ∀ x ∈ [v / 16777216 % 256, v / 65536 % 256, v / 256 % 256, v % 256], x < 256 := by
    intro x hx
    simp at hx
    rcases hx with rfl | rfl | rfl | rfl <;> omega
  rw [e]
  exact ⟨bts_bt _ h 0 (by simp), bts_bt _ h 1 (by simp), bts_bt _ h 2 (by simp), bts_bt _ h 3 (by simp)⟩
theorem be2 {a B : ByteArray} {v : Nat} (h : Pf (a ++ numB v 2) B) (hv : v < 65536) : be B a.size 2 = v := by
  obtain ⟨h0, h1⟩ := numB2_bt v
  have e0 := h.bt (i := 0) (by rw [numB_size]; omega)
  have e1 := h.bt (i := 1) (by rw [numB_size]; omega)
  rw [h0] at e0
  rw [h1] at e1
  rw [Nat.add_zero] at e0
  show ((0 * 256 + bt B (a.size + 0)) * 256 + bt B (a.size + 1)) = v
  rw [Nat.add_zero, e0, e1]; omega
theorem be4 {a B : ByteArray} {v : Nat} (h : Pf (a ++ numB v 4) B) (hv : v < 4294967296) : be B a.size 4 = v := by
  obtain ⟨h0, h1, h2, h3⟩ := numB4_bt v
  have e0 := h.bt (i := 0) (by rw [numB_size]; omega)
  have e1 := h.bt (i := 1) (by rw [numB_size]; omega)
  have e2 := h.bt (i := 2) (by rw [numB_size]; omega)
  have e3 := h.bt (i := 3) (by rw [numB_size]; omega)
  rw [h0] at e0
  rw [h1] at e1
  rw [h2] at e2
  rw [h3] at e3
  rw [Nat.add_zero] at e0
  show ((((0 * 256 + bt B (a.size + 0)) * 256 + bt B (a.size + 1)) * 256 + bt B (a.size + 2)) * 256 + bt B (a.size + 3)) = v
  rw [Nat.add_zero, e0, e1, e2, e3]; omega

/-- from q on stands n, whatever was read ahead of it -/
def Gd (B n : ByteArray) (q : Nat) : Prop := ∀ had, had + n.size ≤ 255 → ∃ nx, rn B q q B.size 10 had = .ok (n, nx)
theorem pb1 (l : List ByteArray) : 1 ≤ (putB l).size := by rw [putB_size]; omega
/-- what is written of a name is read as that name -/
theorem nameR (B : ByteArray) : ∀ (l : List ByteArray) (s : PS) (st en ov had : Nat), OkL l → had + (putB l).size ≤ 255 → st ≤ s.out.size → Pf (nameL l s).out B → (nameL l s).out.size ≤ en → TabOK s.tab →
    (∀ n q, (n, q) ∈ s.tab → n.size ≤ (putB l).size → q < st ∧ Gd B n q) → rn B s.out.size st en ov had = .ok (putB l, (nameL l s).out.size)
  | [], s, st, en, ov, had, hok, hh, hst, hp, hen, ht, H => by
    have hp' : Pf (s.out ++ ⟨#[0]⟩) B := hp
    have h0 : bt B s.out.size = 0 := hp'.bt (i := 0) (by show 0 < 1; omega)
    have hs : (nameL [] s).out.size = s.out.size + 1 := by show (s.out ++ ⟨#[0]⟩).size = _; rw [ByteArray.size_append]; rfl
    rw [rn_zero (by omega) h0, hs, labs_nil_putB]
  | x :: l, s, st, en, ov, had, hok, hh, hst, hp, hen, ht, H => by
    have hpb : (putB (x :: l)).size = 1 + x.size + (putB l).size := by rw [putB_cons, ByteArray.size_append, chunk_size]
    obtain ⟨x1, x2⟩ := hok x List.mem_cons_self
    unfold nameL at hp hen ⊢
    cases e : tabF s.tab (putB (x :: l)) with
    | some p =>
      rw [e] at hp hen
      simp only at hp hen ⊢
      have hp3 := ht.le e
      obtain ⟨g1, g2⟩ := H _ _ (tabF_mem e) (Nat.le_refl _)
      obtain ⟨n0, n1⟩ := numB2_bt (49152 + p)
      have b0 := hp.bt (i := 0) (by rw [numB_size]; omega)
      have b1 := hp.bt (i := 1) (by rw [numB_size]; omega)
      rw [n0, Nat.add_zero] at b0
      rw [n1] at b1
      have hsz : (s.out ++ numB (49152 + p) 2).size = s.out.size + 2 := by rw [ByteArray.size_append, numB_size]
      rw [hsz] at hen ⊢
      have hto : (bt B s.out.size - 192) * 256 + bt B (s.out.size + 1) = p := by rw [b0, b1]; omega
      obtain ⟨nx, hnx⟩ := g2 had hh
      rw [rn_ptr (by omega) (by rw [b0]; omega) (by omega) (by rw [hto]; exact g1), hto, hnx]
      rfl
    | none =>
      rw [e] at hp hen
      simp only at hp hen ⊢
      obtain ⟨s1, hs1⟩ : ∃ s1 : PS, (⟨s.out ++ chunk x, if s.out.size ≤ 16383 then (putB (x :: l), s.out.size) :: s.tab else s.tab⟩ : PS) = s1 := ⟨_, rfl⟩
      rw [hs1] at hp hen ⊢
      have ho : s1.out = s.out ++ chunk x := by rw [← hs1]
      have hz : s1.out.size = s.out.size + 1 + x.size := by rw [ho, ByteArray.size_append, chunk_size]; omega
      have hpc : Pf (s.out ++ chunk x) B := ho ▸ ((nameL_pf l s1).trans hp)
      have hl1 : s1.out.size < (nameL l s1).out.size := (nameL_size l s1).2
      have b0 : bt B s.out.size = x.size := by
        have := hpc.bt (i := 0) (by rw [chunk_size]; omega)
        rw [Nat.add_zero] at this
        rw [this, bt_chunk x (by omega)]
      have hx := hpc.ext
      rw [chunk_size] at hx
      have htab : ∀ n q, (n, q) ∈ s1.tab → (n, q) ∈ s.tab ∨ n = putB (x :: l) := fun n q hm => by
        rw [← hs1] at hm
        simp only at hm
        by_cases hc : s.out.size ≤ 16383
        · rw [if_pos hc] at hm
          rcases List.mem_cons.1 hm with h | h
          · injection h with h1 h2; exact .inr h1
          · exact .inl h
        · rw [if_neg hc] at hm; exact .inl hm
      have htok : TabOK s1.tab := fun y hy => by
        rw [← hs1] at hy
        simp only at hy
        by_cases hc : s.out.size ≤ 16383
        · rw [if_pos hc] at hy
          rcases List.mem_cons.1 hy with rfl | h
          · exact ⟨hc, by show (putB (x :: l)).size ≤ 255; omega⟩
          · exact ht y h
        · rw [if_neg hc] at hy; exact ht y hy
      have hr := nameR B l s1 st en ov (had + 1 + x.size) (fun y hy => hok y (List.mem_cons_of_mem _ hy)) (by omega) (by omega) hp hen htok (fun n q hm hn => by
        rcases htab n q hm with h | h
        · exact H n q h (by omega)
        · rw [h] at hn; omega)
      rw [rn_label (by omega) (by omega) (by omega) (by omega) (by have := pb1 l; omega), b0, ← hz, hr]
      unfold pre
      simp only
      rw [hz, show s.out.size + 1 + x.size = s.out.size + (1 + x.size) by omega, hx, putB_cons]
/-- what is noted is read -/
theorem nameT (B : ByteArray) : ∀ (l : List ByteArray) (s : PS), OkL l → (putB l).size ≤ 255 → Pf (nameL l s).out B → TabOK s.tab → (∀ n q, (n, q) ∈ s.tab → q < s.out.size ∧ Gd B n q) →
    ∀ n q, (n, q) ∈ (nameL l s).tab → q < (nameL l s).out.size ∧ Gd B n q
  | [], s, hok, hh, hp, ht, H => fun n q hm => by
    obtain ⟨h1, h2⟩ := H n q hm
    refine ⟨?_, h2⟩
    show q < (s.out ++ ⟨#[0]⟩).size
    rw [ByteArray.size_append]; omega
  | x :: l, s, hok, hh, hp, ht, H => by
    have hpb : (putB (x :: l)).size = 1 + x.size + (putB l).size := by rw [putB_cons, ByteArray.size_append, chunk_size]
    have hG : Gd B (putB (x :: l)) s.out.size := fun had hb => ⟨_, nameR B (x :: l) s s.out.size B.size 10 had hok hb (Nat.le_refl _) hp hp.size ht (fun n q hm _ => H n q hm)⟩
    unfold nameL at hp ⊢
    cases e : tabF s.tab (putB (x :: l)) with
    | some p =>
      intro n q hm
      obtain ⟨h1, h2⟩ := H n q hm
      refine ⟨?_, h2⟩
      show q < (s.out ++ numB _ 2).size
      rw [ByteArray.size_append]; omega
    | none =>
      rw [e] at hp
      simp only at hp ⊢
      refine nameT B l _ (fun y hy => hok y (List.mem_cons_of_mem _ hy)) (by omega) hp ?_ ?_
      · intro y hy
        simp only at hy
        by_cases hc : s.out.size ≤ 16383
        · rw [if_pos hc] at hy
          rcases List.mem_cons.1 hy with rfl | h
          · exact ⟨hc, by show (putB (x :: l)).size ≤ 255; omega⟩
          · exact ht y h
        · rw [if_neg hc] at hy; exact ht y hy
      · intro n q hm
        have hsz : (s.out ++ chunk x).size = s.out.size + (1 + x.size) := by rw [ByteArray.size_append, chunk_size]
        show q < (s.out ++ chunk x).size ∧ _
        simp only at hm
        by_cases hc : s.out.size ≤ 16383
        · rw [if_pos hc] at hm
          rcases List.mem_cons.1 hm with h | h
          · injection h with h1 h2
            subst h1; subst h2
            exact ⟨by omega, hG⟩
          · obtain ⟨h1, h2⟩ := H n q h
            exact ⟨by omega, h2⟩
        · rw [if_neg hc] at hm
          obtain ⟨h1, h2⟩ := H n q hm
          exact ⟨by omega, h2⟩
end Go.Proofs.Ytinnmfidnecncaa.Nm

/-
  Plain facts: what is written of questions and records is read as these. (The verifier's own text.)
-/
namespace Go.Proofs.Ytinnmfidnecncaa
set_option linter.unusedVariables false
open Go.RowKit Go.Shelf Go.Maps Go.Proofs.Ytinnmfidnecncaa.Nm

/-- what is noted lies low, behind what was written, and is read -/
structure Tg (B : ByteArray) (s : PS) : Prop where
  ok : TabOK s.tab
  gd : ∀ n q, (n, q) ∈ s.tab → q < s.out.size ∧ Gd B n q
theorem Tg.more {B : ByteArray} {s : PS} (h : Tg B s) (x : ByteArray) : Tg B ⟨s.out ++ x, s.tab⟩ := ⟨h.ok, fun n q hm => by
  obtain ⟨h1, h2⟩ := h.gd n q hm
  exact ⟨by show q < (s.out ++ x).size; rw [ByteArray.size_append]; omega, h2⟩⟩
theorem nm_le {n : ByteArray} (hn : isN n = true) : (putB (labs n)).size ≤ 255 := by rw [putB_labs hn]; exact ((isN_iff n).1 hn).1
theorem nameTg {B n : ByteArray} {s : PS} (hn : isN n = true) (h : Tg B s) (hp : Pf (nameL (labs n) s).out B) : Tg B (nameL (labs n) s) :=
  ⟨nameL_ok _ _ h.ok (nm_le hn), nameT B _ s (okL_labs n) (nm_le hn) hp h.ok h.gd⟩
theorem nameRd {B n : ByteArray} {s : PS} (hn : isN n = true) (h : Tg B s) (hp : Pf (nameL (labs n) s).out B) (en ov : Nat) (hen : (nameL (labs n) s).out.size ≤ en) : rn B s.out.size s.out.size en ov 0 = .ok (n, (nameL (labs n) s).out.size) := by
  have := nameR B (labs n) s s.out.size en ov 0 (okL_labs n) (by have := nm_le hn; omega) (Nat.le_refl _) hp hen h.ok (fun n q hm _ => h.gd n q hm)
  rw [putB_labs hn] at this
  exact this
theorem quesR {B n : ByteArray} {t c : Nat} {s : PS} (hn : isN n = true) (ht : t < 65536) (hc : c < 65536) (h : Tg B s) (hp : Pf (quesP n t c s).out B) :
    Tg B (quesP n t c s) ∧ qr B s.out.size = .ok (⟨n, (t : Int), (c : Int)⟩, (quesP n t c s).out.size) := by
  have hp2 : Pf (((nameL (labs n) s).out ++ numB t 2) ++ numB c 2) B := hp
  have hp1 := hp2.left
  have hp0 := hp1.left
  refine ⟨((nameTg hn h hp0).more _).more _, ?_⟩
  have hz := quesP_size n t c s
  unfold qr
  rw [nameRd hn h hp0 B.size 10 hp0.size]
  simp only
  have hB : (quesP n t c s).out.size ≤ B.size := hp.size
  rw [if_neg (by omega), be2 hp1 ht]
  have e2 := be2 hp2 hc
  rw [ByteArray.size_append, numB_size] at e2
  rw [e2, hz]
theorem nmR_R (B r : ByteArray) (en : Nat) : ∀ (N : List ByteArray) (s : PS) (acc : ByteArray), (∀ n ∈ N, isN n = true) → Tg B s → Pf ((namesP N s).out ++ r) B → en = (namesP N s).out.size + r.size →
    nmR B en N.length s.out.size acc = .ok (acc ++ (cat N ++ r)) ∧ Tg B (namesP N s)
  | [], s, acc, hN, h, hp, he => by
    refine ⟨?_, h⟩
    show Except.ok (acc ++ B.extract s.out.size en) = _
    have hp' : Pf (s.out ++ r) B := hp
    have he' : en = s.out.size + r.size := he
    rw [he', hp'.ext]
    show _ = Except.ok (acc ++ (ByteArray.empty ++ r))
    rw [empty_app]
  | n :: l, s, acc, hN, h, hp, he => by
    have hn := hN n List.mem_cons_self
    have hp' : Pf ((namesP l (nameL (labs n) s)).out ++ r) B := hp
    have he' : en = (namesP l (nameL (labs n) s)).out.size + r.size := he
    have hpf : ∀ (l : List ByteArray) (s : PS), Pf s.out (namesP l s).out := fun l => by
      induction l with
      | nil => intro s; exact Pf.refl _
      | cons x l ih => intro s; exact (nameL_pf _ s).trans (ih _)
    have hp0 : Pf (nameL (labs n) s).out B := (hpf l _).trans hp'.left
    have hz := (hpf l (nameL (labs n) s)).size
    obtain ⟨h1, h2⟩ := nmR_R B r en l (nameL (labs n) s) (acc ++ n) (fun x hx => hN x (List.mem_cons_of_mem _ hx)) (nameTg hn h hp0) hp' he'
    refine ⟨?_, h2⟩
    show nmR B en (l.length + 1) s.out.size acc = _
    unfold nmR
    rw [nameRd hn h hp0 en 7 (by omega)]
    simp only
    rw [h1]
    show _ = Except.ok (acc ++ ((n ++ cat l) ++ r))
    rw [ByteArray.append_assoc, ByteArray.append_assoc]
theorem namesOf_doms : ∀ (ps : List (Kind × ByteArray)), (namesOf ps).length = ((ps.map Prod.fst).filter (fun k => decide (k = Kind.dom))).length
  | [] => rfl
  | (k, x) :: ps => by
    have ih := namesOf_doms ps
    by_cases hk : k = Kind.dom
    · subst hk
      rw [namesOf_cons]
      simp [ih]
    · have : namesOf ((k, x) :: ps) = namesOf ps := List.filterMap_cons_none (if_neg hk)
      rw [this, ih]
      simp [hk]
theorem names_len {t c : Int} {d : ByteArray} (hd : dataOK t c d = true) (h0 : d.size ≠ 0) (hs : (shp t).2 ≠ 0) : (namesD t d).length = (shp t).2 := by
  unfold dataOK at hd
  have h41 : t ≠ 41 := fun e => by subst e; exact hs rfl
  rw [if_neg h41, if_neg (fun h => h0 h.1)] at hd
  obtain ⟨ps, hp⟩ := errD_zero (of_decide_eq_true hd)
  have hN : namesD t d = namesOf ps := by unfold namesD; rw [hp]
  rw [hN, namesOf_doms]
  unfold partsD at hp
  by_cases h2 : t = 2 ∨ t = 5 ∨ t = 12
  · have hk : kindsOf t = some [.dom] := by rcases h2 with rfl | rfl | rfl <;> rfl
    have hsh : shp t = (0, 1) := by unfold shp; rw [if_pos h2]
    rw [hk] at hp
    simp only at hp
    split at hp
    · cases hp
    · rw [partsOf_kinds hp, hsh]; rfl
  · by_cases h6 : t = 6
    · subst h6
      have hp' : (if 65535 < d.size then none else partsOf [.dom, .dom, .num 4, .num 4, .num 4, .num 4, .num 4] d) = some ps := hp
      split at hp'
      · cases hp'
      · rw [partsOf_kinds hp']; rfl
    · by_cases h15 : t = 15
      · subst h15
        have hp' : (if 65535 < d.size then none else partsOf [.num 2, .dom] d) = some ps := hp
        split at hp'
        · cases hp'
        · rw [partsOf_kinds hp']; rfl
      · exact absurd (by unfold shp; rw [if_neg h2, if_neg h6, if_neg h15]) hs
theorem dataR {B : ByteArray} {t c : Int} {d : ByteArray} {s : PS} (hd : dataOK t c d = true) (h : Tg B s) (hp : Pf (dataP t d s).out B) :
    Tg B (dataP t d s) ∧ dr B s.out.size (dataP t d s).out.size t = .ok d := by
  unfold dataP at hp ⊢
  by_cases hc : d.size = 0 ∨ (shp t).2 = 0
  · rw [if_pos hc] at hp ⊢
    have hp' : Pf (s.out ++ d) B := hp
    refine ⟨h.more d, ?_⟩
    show dr B s.out.size (s.out ++ d).size t = .ok d
    unfold dr
    rw [ByteArray.size_append]
    by_cases h0 : d.size = 0
    · rw [if_pos (by omega), size_zero_empty h0]
    · have h2 : (shp t).2 = 0 := by rcases hc with h1 | h1; exact absurd h1 h0; exact h1
      have h1 : (shp t).1 = 0 := by
        unfold shp at h2 ⊢
        split at h2
        · cases h2
        · split at h2
          · cases h2
          · split at h2
            · cases h2
            · rw [if_neg ‹_›, if_neg ‹_›, if_neg ‹_›]
      rw [if_neg (by omega), h1, h2, if_neg (by omega)]
      show Except.ok (B.extract s.out.size (s.out.size + 0) ++ B.extract (s.out.size + 0) (s.out.size + d.size)) = _
      rw [Nat.add_zero, ext_empty, empty_app, hp'.ext]
  · rw [if_neg hc] at hp ⊢
    have h0 : d.size ≠ 0 := fun e => hc (.inl e)
    have h2 : (shp t).2 ≠ 0 := fun e => hc (.inr e)
    have hlen := names_len hd h0 h2
    obtain ⟨N, r, hS⟩ : ∃ N r, ShpOK t d N r := by
      rcases (datOK_of hd).2 with h1 | h1 | h1
      · exact absurd h1 h0
      · exact absurd h1 h2
      · exact h1
    rw [hS.names] at hp hlen ⊢
    have ha := hS.ahead
    have e1 : (d.extract 0 (shp t).1).size = (shp t).1 := by simp; omega
    have hd2 : d = (d.extract 0 (shp t).1 ++ cat N) ++ r := by
      rw [ByteArray.append_assoc, ← hS.eq, ext_two d _ ha]
    have hr : d.extract ((shp t).1 + (cat N).size) d.size = r := by
      have := ex_app_r (d.extract 0 (shp t).1 ++ cat N) r
      rw [← hd2, ByteArray.size_append, e1] at this
      exact this
    rw [hr] at hp ⊢
    have hp' : Pf ((namesP N ⟨s.out ++ d.extract 0 (shp t).1, s.tab⟩).out ++ r) B := hp
    have hsz : ((namesP N ⟨s.out ++ d.extract 0 (shp t).1, s.tab⟩).out ++ r).size = (namesP N ⟨s.out ++ d.extract 0 (shp t).1, s.tab⟩).out.size + r.size := ByteArray.size_append
    obtain ⟨g1, g2⟩ := nmR_R B r _ N ⟨s.out ++ d.extract 0 (shp t).1, s.tab⟩ (d.extract 0 (shp t).1) hS.ok (h.more _) hp' hsz
    refine ⟨g2.more r, ?_⟩
    have hpf : ∀ (l : List ByteArray) (s : PS), Pf s.out (namesP l s).out := fun l => by
      induction l with
      | nil => intro s; exact Pf.refl _
      | cons x l ih => intro s; exact (nameL_pf _ s).trans (ih _)
    have hpa : Pf (s.out ++ d.extract 0 (shp t).1) B := (hpf N _).trans hp'.left
    have hza : (s.out ++ d.extract 0 (shp t).1).size = s.out.size + (shp t).1 := by rw [ByteArray.size_append, e1]
    have hlt : s.out.size + (shp t).1 < (namesP N ⟨s.out ++ d.extract 0 (shp t).1, s.tab⟩).out.size := by
      cases N with
      | nil => exact absurd hlen.symm h2
      | cons n l =>
        have z1 := (name_size (hS.ok n List.mem_cons_self) ⟨s.out ++ d.extract 0 (shp t).1, s.tab⟩).2
        have z2 := (hpf l (nameL (labs n) ⟨s.out ++ d.extract 0 (shp t).1, s.tab⟩)).size
        have z3 : namesP (n :: l) ⟨s.out ++ d.extract 0 (shp t).1, s.tab⟩ = namesP l (nameL (labs n) ⟨s.out ++ d.extract 0 (shp t).1, s.tab⟩) := rfl
        rw [z3]
        simp only [hza] at z1
        omega
    show dr B s.out.size ((namesP N ⟨s.out ++ d.extract 0 (shp t).1, s.tab⟩).out ++ r).size t = .ok d
    unfold dr
    rw [if_neg (by rw [hsz]; omega), if_neg (by rw [hsz]; omega)]
    have hx := hpa.ext
    rw [e1] at hx
    simp only [hza] at g1
    rw [hx, ← hlen, g1, ← ByteArray.append_assoc, ← hd2]
/-- what stands ahead changes nothing but by its size -/
theorem nameL_shift : ∀ (l : List ByteArray) (T : Tab) (o o' : ByteArray), o.size = o'.size → ∃ X T', nameL l ⟨o, T⟩ = ⟨o ++ X, T'⟩ ∧ nameL l ⟨o', T⟩ = ⟨o' ++ X, T'⟩
  | [], T, o, o', h => ⟨_, T, rfl, rfl⟩
  | x :: l, T, o, o', h => by
    unfold nameL
    cases e : tabF T (putB (x :: l)) with
    | some p => exact ⟨_, T, rfl, rfl⟩
    | none =>
      simp only
      rw [h]
      obtain ⟨X, T', h1, h2⟩ := nameL_shift l (if o'.size ≤ 16383 then (putB (x :: l), o'.size) :: T else T) (o ++ chunk x) (o' ++ chunk x) (by rw [ByteArray.size_append, ByteArray.size_append, h])
      exact ⟨chunk x ++ X, T', by rw [h1, ByteArray.append_assoc], by rw [h2, ByteArray.append_assoc]⟩
theorem namesP_shift : ∀ (N : List ByteArray) (T : Tab) (o o' : ByteArray), o.size = o'.size → ∃ X T', namesP N ⟨o, T⟩ = ⟨o ++ X, T'⟩ ∧ namesP N ⟨o', T⟩ = ⟨o' ++ X, T'⟩
  | [], T, o, o', h => ⟨.empty, T, by rw [app_empty]; rfl, by rw [app_empty]; rfl⟩
  | n :: l, T, o, o', h => by
    obtain ⟨X, T1, h1, h2⟩ := nameL_shift (labs n) T o o' h
    obtain ⟨Y, T2, h3, h4⟩ := namesP_shift l T1 (o ++ X) (o' ++ X) (by rw [ByteArray.size_append, ByteArray.size_append, h])
    refine ⟨X ++ Y, T2, ?_, ?_⟩
    · show namesP l (nameL (labs n) ⟨o, T⟩) = _
      rw [h1, h3, ByteArray.append_assoc]
    · show namesP l (nameL (labs n) ⟨o', T⟩) = _
      rw [h2, h4, ByteArray.append_assoc]
theorem dataP_shift (t : Int) (d : ByteArray) (T : Tab) (o o' : ByteArray) (h : o.size = o'.size) : ∃ X T', dataP t d ⟨o, T⟩ = ⟨o ++ X, T'⟩ ∧ dataP t d ⟨o', T⟩ = ⟨o' ++ X, T'⟩ := by
  unfold dataP
  by_cases hc : d.size = 0 ∨ (shp t).2 = 0
  · rw [if_pos hc, if_pos hc]; exact ⟨d, T, rfl, rfl⟩
  · rw [if_neg hc, if_neg hc]
    obtain ⟨X, T', h1, h2⟩ := namesP_shift (namesD t d) T (o ++ d.extract 0 (shp t).1) (o' ++ d.extract 0 (shp t).1) (by rw [ByteArray.size_append, ByteArray.size_append, h])
    simp only [h1, h2]
    refine ⟨d.extract 0 (shp t).1 ++ X ++ d.extract ((shp t).1 + (cat (namesD t d)).size) d.size, T', ?_, ?_⟩
    · simp only [ByteArray.append_assoc]
    · simp only [ByteArray.append_assoc]
theorem putAt_left : ∀ (l : List Nat) (A X : ByteArray) (k : Nat), k + l.length ≤ A.size → putAt (A ++ X) k l = putAt A k l ++ X
  | [], A, X, k, h => rfl
  | x :: l, A, X, k, h => by
    simp only [List.length_cons] at h
    unfold putAt
    have e : (⟨(A ++ X).data.setIfInBounds k (UInt8.ofNat x)⟩ : ByteArray) = ⟨A.data.setIfInBounds k (UInt8.ofNat x)⟩ ++ X := by
      apply ByteArray.ext
      apply Array.ext'
      have hz : A.size = A.data.toList.length := (Array.length_toList (xs := A.data)).symm
      simp only [Array.toList_setIfInBounds, ByteArray.data_append, Array.toList_append]
      rw [List.set_append_left _ _ (by omega)]
    rw [e, putAt_left l _ X (k + 1) (by
      have : (⟨A.data.setIfInBounds k (UInt8.ofNat x)⟩ : ByteArray).size = A.size := Array.size_setIfInBounds
      omega)]
theorem numB2_eq (v : Nat) (hv : v < 65536) : numB v 2 = bts [v / 256, v % 256] := by
  have : v / 256 % 256 = v / 256 := Nat.mod_eq_of_lt (by omega)
  simp [numB, List.range, List.range.loop, this]
/-- a record, with the size of its data in its place from the first -/
theorem recP_eq {t c l : Nat} {o d : ByteArray} (hd : DatOK (t : Int) d) (ho : isN o = true) {s : PS} (hs : POk s) :
    ∃ L, L < 65536 ∧ recP o t c l d s = dataP t d ⟨(quesP o t c s).out ++ numB l 4 ++ numB L 2, (quesP o t c s).tab⟩ ∧ (recP o t c l d s).out.size = (quesP o t c s).out.size + 6 + L := by
  obtain ⟨L, hL⟩ : ∃ L, (dataP t d (recH o t c l s)).out.size - (recH o t c l s).out.size = L := ⟨_, rfl⟩
  obtain ⟨p1, p2, p3⟩ := dataP_ok hd (recH_pok ho t c l hs)
  have hdz := hd.1
  have hLl : L < 65536 := by omega
  have hH : (recH o t c l s).out.size = (quesP o t c s).out.size + 6 := by
    unfold recH
    show ((_ ++ _) ++ _ : ByteArray).size = _
    rw [ByteArray.size_append, ByteArray.size_append, numB_size, numB_size]
  have hz := recP_size o t c l d s
  refine ⟨L, hLl, ?_, by omega⟩
  obtain ⟨X, T', h1, h2⟩ := dataP_shift t d (quesP o t c s).tab ((quesP o t c s).out ++ numB l 4 ++ numB 0 2) ((quesP o t c s).out ++ numB l 4 ++ numB L 2) (by simp only [ByteArray.size_append, numB_size])
  have hR : recH o t c l s = ⟨(quesP o t c s).out ++ numB l 4 ++ numB 0 2, (quesP o t c s).tab⟩ := rfl
  unfold recP
  rw [hL, hH, hR, h1, h2]
  have hq : ((quesP o t c s).out ++ numB l 4).size = (quesP o t c s).out.size + 6 - 2 := by rw [ByteArray.size_append, numB_size]; omega
  have e0 : numB 0 2 = bts [0, 0] := by rw [numB2_eq 0 (by omega)]
  simp only
  rw [putAt_left _ _ _ _ (by rw [ByteArray.size_append, hq, numB_size]; simp), ← hq, e0, putAt_app [L / 256, L % 256] [0, 0] _ rfl, numB2_eq L hLl]
theorem recRd {B : ByteArray} {r : Rn} {s : PS} (hr : rOK r = true) (hs : POk s) (h : Tg B s) (hp : Pf (recR r s).out B) :
    Tg B (recR r s) ∧ rr B s.out.size = .ok (r, (recR r s).out.size) := by
  obtain ⟨h1, ⟨t, ht, htl⟩, ⟨c, hc, hcl⟩, ⟨l, hl, hll⟩, hd⟩ := rOK_parts hr
  have hdok : dataOK r.t r.c r.d = true := by
    unfold rOK recOK at hr
    simp only [Bool.and_eq_true] at hr
    exact hr.2
  obtain ⟨o, t', c', l', d⟩ := r
  simp only at ht hc hl hd hdok h1
  subst ht; subst hc; subst hl
  have hrec : recR ⟨o, (t : Int), (c : Int), (l : Int), d⟩ s = recP o t c l d s := by simp [recR]
  rw [hrec] at hp ⊢
  obtain ⟨L, hL, he, hz⟩ := recP_eq (c := c) (l := l) hd h1 hs
  have hpL : Pf ((quesP o t c s).out ++ numB l 4 ++ numB L 2) B := by
    obtain ⟨X, T', h3, _⟩ := dataP_shift t d (quesP o t c s).tab ((quesP o t c s).out ++ numB l 4 ++ numB L 2) _ rfl
    rw [he, h3] at hp
    exact Pf.left hp
  obtain ⟨hq1, hq2⟩ := quesR h1 htl hcl h hpL.left.left
  have hd' := dataR (s := ⟨(quesP o t c s).out ++ numB l 4 ++ numB L 2, (quesP o t c s).tab⟩) hdok ((hq1.more _).more _) (he ▸ hp)
  rw [← he] at hd'
  refine ⟨hd'.1, ?_⟩
  have hBz := hp.size
  have e4 := be4 hpL.left hll
  have e2 := be2 hpL hL
  rw [ByteArray.size_append, numB_size] at e2
  have hdr := hd'.2
  have hsz : ((quesP o t c s).out ++ numB l 4 ++ numB L 2).size = (quesP o t c s).out.size + 6 := by rw [ByteArray.size_append, ByteArray.size_append, numB_size, numB_size]
  simp only [hsz] at hdr
  unfold rr
  rw [hq2]
  simp only
  rw [if_neg (by omega), e2, if_neg (by omega), ← hz, hdr]
  unfold sound
  simp only
  rw [if_pos hdok, e4]
/-- records, one behind the other -/
def recL (L : List Rn) (s : PS) : PS := L.foldl (fun s r => recR r s) s
theorem quesL_pf : ∀ (Q : List Qn) (s : PS), Pf s.out (quesL Q s).out
  | [], s => Pf.refl _
  | q :: l, s => (((nameL_pf _ s).trans (Pf.app _ _)).trans (Pf.app _ _)).trans (quesL_pf l (quesQ q s))
theorem recR_pf {r : Rn} (hr : rOK r = true) {s : PS} (hs : POk s) : Pf s.out (recR r s).out := by
  obtain ⟨h1, ⟨t, ht, htl⟩, ⟨c, hc, hcl⟩, ⟨l, hl, hll⟩, hd⟩ := rOK_parts hr
  obtain ⟨o, t', c', l', d⟩ := r
  simp only at ht hc hl hd h1
  subst ht; subst hc; subst hl
  have hrec : recR ⟨o, (t : Int), (c : Int), (l : Int), d⟩ s = recP o t c l d s := by simp [recR]
  rw [hrec]
  obtain ⟨L, hL, he, hz⟩ := recP_eq (c := c) (l := l) hd h1 hs
  obtain ⟨X, T', h3, _⟩ := dataP_shift t d (quesP o t c s).tab ((quesP o t c s).out ++ numB l 4 ++ numB L 2) _ rfl
  rw [he, h3]
  exact ((((nameL_pf _ s).trans (Pf.app _ _)).trans (Pf.app _ _)).trans (Pf.app _ _)).trans ((Pf.app _ _).trans (Pf.app _ _))
theorem recL_pf : ∀ (L : List Rn) (s : PS), (∀ r ∈ L, rOK r = true) → POk s → Pf s.out (recL L s).out ∧ POk (recL L s)
  | [], s, _, h => ⟨Pf.refl _, h⟩
  | r :: l, s, hL, h => by
    have hr := hL r List.mem_cons_self
    obtain ⟨h1, h2⟩ := recL_pf l (recR r s) (fun x hx => hL x (List.mem_cons_of_mem _ hx)) (recR_ok hr h).1
    exact ⟨(recR_pf hr h).trans h1, h2⟩
theorem qsR (B : ByteArray) : ∀ (Q : List Qn) (s : PS) (acc : List Qn), (∀ q ∈ Q, qOK q = true) → Tg B s → Pf (quesL Q s).out B → qs B Q.length s.out.size acc = .ok (acc ++ Q, (quesL Q s).out.size) ∧ Tg B (quesL Q s)
  | [], s, acc, _, h, hp => ⟨by simp [qs, quesL], h⟩
  | q :: l, s, acc, hQ, h, hp => by
    obtain ⟨h1, ⟨t, ht, htl⟩, ⟨c, hc, hcl⟩⟩ := qOK_parts (hQ q List.mem_cons_self)
    obtain ⟨n, t', c'⟩ := q
    simp only at ht hc h1
    subst ht; subst hc
    have hqq : quesQ ⟨n, (t : Int), (c : Int)⟩ s = quesP n t c s := by simp [quesQ]
    have hp' : Pf (quesL l (quesP n t c s)).out B := by rw [← hqq]; exact hp
    obtain ⟨g1, g2⟩ := quesR h1 htl hcl h ((quesL_pf l _).trans hp')
    obtain ⟨g3, g4⟩ := qsR B l (quesP n t c s) (acc ++ [⟨n, (t : Int), (c : Int)⟩]) (fun x hx => hQ x (List.mem_cons_of_mem _ hx)) g1 hp'
    have hql : quesL (⟨n, (t : Int), (c : Int)⟩ :: l) s = quesL l (quesP n t c s) := by rw [← hqq]; rfl
    rw [hql]
    refine ⟨?_, g4⟩
    show qs B (l.length + 1) s.out.size acc = _
    unfold qs
    rw [g2]
    simp only
    rw [g3, List.append_assoc]
    rfl
theorem rsR (B : ByteArray) : ∀ (L : List Rn) (s : PS) (acc : List Rn), (∀ r ∈ L, rOK r = true) → POk s → Tg B s → Pf (recL L s).out B → rs B L.length s.out.size acc = .ok (acc ++ L, (recL L s).out.size) ∧ Tg B (recL L s)
  | [], s, acc, _, _, h, hp => ⟨by simp [rs, recL], h⟩
  | r :: l, s, acc, hL, hs, h, hp => by
    have hr := hL r List.mem_cons_self
    have hp' : Pf (recL l (recR r s)).out B := hp
    have hk := (recR_ok hr hs).1
    obtain ⟨g1, g2⟩ := recRd hr hs h ((recL_pf l _ (fun x hx => hL x (List.mem_cons_of_mem _ hx)) hk).1.trans hp')
    obtain ⟨g3, g4⟩ := rsR B l (recR r s) (acc ++ [r]) (fun x hx => hL x (List.mem_cons_of_mem _ hx)) hk g1 hp'
    refine ⟨?_, g4⟩
    show rs B (l.length + 1) s.out.size acc = _
    unfold rs
    rw [g2]
    simp only
    rw [g3, List.append_assoc]
    rfl
theorem recL_app (A U : List Rn) (s : PS) : recL (A ++ U) s = recL U (recL A s) := by simp [recL]
/-- where all has room, all is written -/
theorem runR_all : ∀ (L : List Rn) (s : PS) (c : Nat), (∀ r ∈ L, rOK r = true) → POk s → (runR 65535 L s c).1.out.size ≤ 65535 → (runR 65535 L s c).1 = recL L s
  | [], s, c, _, _, _ => rfl
  | r :: l, s, c, hL, hs, h => by
    unfold runR at h ⊢
    by_cases hm : (65535 : Int) < (s.out.size : Int)
    · rw [if_pos hm] at h; simp only at h; omega
    · rw [if_neg hm] at h ⊢
      exact runR_all l (recR r s) (c + 1) (fun x hx => hL x (List.mem_cons_of_mem _ hx)) (recR_ok (hL r List.mem_cons_self) hs).1 h
end Go.Proofs.Ytinnmfidnecncaa
