import Derived.Test.YtjnmbgmdkkiidaaGreatPp2G
import Derived.Deep.Cut
/-
  The reference's paper: data, plainly. (The verifier's own text.)
-/
namespace Go.Proofs.YtjnmbgmdkkiidaaGreat
set_option linter.unusedVariables false
open Go.RowKit Go.Shelf Go.Maps Go.Proofs.YtjnmbgmdkkiidaaGreat.Nm

theorem nums_size : ∀ (L : List Nat) {d : ByteArray} {ps : List (Kind × ByteArray)}, partsOf (L.map .num) d = some ps → d.size = L.sum
  | [], d, ps, h => by
    have h' : partsOf [] d = some ps := h
    unfold partsOf at h'
    split at h'
    · rename_i h0
      first | exact h0 | simpa using h0
    · cases h'
  | m :: L, d, ps, h => by
    obtain ⟨ps', h1, h2, _⟩ := partsOf_num (m := m) (ks := L.map .num) h
    have h3 := nums_size L h2
    have h4 : (d.extract m d.size).size = d.size - m := by simp
    rw [List.sum_cons]; omega
theorem shp_ok2 {t : Int} {d : ByteArray} {ps : List (Kind × ByteArray)} (hs : (shp t).2 ≠ 0) (hp : partsD t d = some ps) : ∃ N r, ShpOK t d N r ∧ N.length = (shp t).2 ∧ (t = 6 → r.size = 20) := by
  have hN : namesD t d = namesOf ps := by unfold namesD; rw [hp]
  have hz : ∀ d : ByteArray, d.extract 0 d.size = d := fun d => by apply ByteArray.ext; simp
  unfold partsD at hp
  by_cases h2 : t = 2 ∨ t = 5 ∨ t = 12
  · have hk : kindsOf t = some [.dom] := by rcases h2 with rfl | rfl | rfl <;> rfl
    have hsh : (shp t).1 = 0 := by unfold shp; rw [if_pos h2]
    rw [hk] at hp
    simp only at hp
    split at hp
    · cases hp
    · obtain ⟨n, ps', h1, h3, h4, rfl⟩ := partsOf_dom hp
      refine ⟨[d.extract 0 n], d.extract n d.size, ⟨?_, ?_, by omega, ?_, by simp⟩, by unfold shp; rw [if_pos h2]; rfl, fun e => by omega⟩
      · rw [hN, namesOf_cons, namesOf_none (fun p hp => by have := partsOf_kinds h4; cases ps' with | nil => cases hp | cons a b => cases this)]
      · intro y hy; rw [List.mem_singleton.1 hy]; exact h3
      · rw [hsh, hz]; show d = (d.extract 0 n ++ .empty) ++ _; rw [app_empty, ext_two d n h1]
  · by_cases h6 : t = 6
    · subst h6
      have hp' : (if 65535 < d.size then none else partsOf [.dom, .dom, .num 4, .num 4, .num 4, .num 4, .num 4] d) = some ps := hp
      split at hp'
      · cases hp'
      · obtain ⟨n, ps1, h1, h3, h4, rfl⟩ := partsOf_dom hp'
        obtain ⟨m, ps2, g1, g3, g4, rfl⟩ := partsOf_dom h4
        refine ⟨[d.extract 0 n, (d.extract n d.size).extract 0 m], (d.extract n d.size).extract m (d.extract n d.size).size, ⟨?_, ?_, Nat.zero_le _, ?_, by simp⟩, rfl, fun _ => nums_size [4, 4, 4, 4, 4] g4⟩
        · rw [hN, namesOf_cons, namesOf_cons, namesOf_none (fun p hp e => by
            have h5 := partsOf_kinds g4
            have h6 : p.1 ∈ ps2.map Prod.fst := List.mem_map_of_mem hp
            rw [h5, e] at h6
            exact absurd h6 (by decide))]
        · intro y hy
          rcases List.mem_cons.1 hy with rfl | hy
          · exact h3
          · rw [List.mem_singleton.1 hy]; exact g3
        · show d.extract 0 d.size = (d.extract 0 n ++ ((d.extract n d.size).extract 0 m ++ .empty)) ++ _
          rw [hz, app_empty, ByteArray.append_assoc, ext_two (d.extract n d.size) m g1, ext_two d n h1]
    · by_cases h15 : t = 15
      · subst h15
        have hp' : (if 65535 < d.size then none else partsOf [.num 2, .dom] d) = some ps := hp
        split at hp'
        · cases hp'
        · obtain ⟨ps1, h1, h4, rfl⟩ := partsOf_num hp'
          obtain ⟨m, ps2, g1, g3, g4, rfl⟩ := partsOf_dom h4
          refine ⟨[(d.extract 2 d.size).extract 0 m], (d.extract 2 d.size).extract m (d.extract 2 d.size).size, ⟨?_, ?_, h1, ?_, by simp⟩, rfl, fun e => by omega⟩
          · rw [hN]
            show namesOf ((Kind.num 2, _) :: _) = _
            have hd : namesOf ((Kind.num 2, d.extract 0 2) :: (Kind.dom, (d.extract 2 d.size).extract 0 m) :: ps2) = namesOf ((Kind.dom, (d.extract 2 d.size).extract 0 m) :: ps2) := List.filterMap_cons_none (if_neg (show ¬ (Kind.num 2 = Kind.dom) by decide))
            rw [hd, namesOf_cons, namesOf_none (fun p hp => by have := partsOf_kinds g4; cases ps2 with | nil => cases hp | cons a b => cases this)]
          · intro y hy; rw [List.mem_singleton.1 hy]; exact g3
          · show d.extract 2 d.size = ((d.extract 2 d.size).extract 0 m ++ .empty) ++ _
            rw [app_empty, ext_two (d.extract 2 d.size) m g1]
      · exfalso
        apply hs
        unfold shp
        rw [if_neg h2, if_neg h6, if_neg h15]

/-- data are written part by part: what is left, and what stands then -/
def Bd : List Nat → ByteArray → PS → ByteArray → PS → Prop
  | [], d, s, d', s' => d' = d ∧ s' = s
  | k :: l, d, s, d', s' => if k = 0 then ∃ n r, isN n = true ∧ d = n ++ r ∧ Bd l r (nameL (labs n) s) d' s' else ∃ a r, a.size = k ∧ d = a ++ r ∧ Bd l r ⟨s.out ++ a, s.tab⟩ d' s'
theorem bd_name {l : List Nat} {n r : ByteArray} {s : PS} {d' : ByteArray} {s' : PS} (hn : isN n = true) (h : Bd l r (nameL (labs n) s) d' s') : Bd (0 :: l) (n ++ r) s d' s' := by
  unfold Bd
  rw [if_pos rfl]
  exact ⟨n, r, hn, rfl, h⟩
theorem bd_num {l : List Nat} {k : Nat} {a r : ByteArray} {s : PS} {d' : ByteArray} {s' : PS} (hk : k ≠ 0) (ha : a.size = k) (h : Bd l r ⟨s.out ++ a, s.tab⟩ d' s') : Bd (k :: l) (a ++ r) s d' s' := by
  unfold Bd
  rw [if_neg hk]
  exact ⟨a, r, ha, rfl, h⟩
/-- .. as the program writes them -/
theorem dataP_bd {t c : Int} {d : ByteArray} (hd : dataOK t c d = true) (h0 : d.size ≠ 0) (s : PS) : ∃ d' s', Bd (bl t) d s d' s' ∧ dataP t d s = ⟨s'.out ++ d', s'.tab⟩ := by
  by_cases hs : (shp t).2 = 0
  · have hb : bl t = [] := by
      unfold shp at hs
      unfold bl
      by_cases h2 : t = 2 ∨ t = 5 ∨ t = 12
      · rw [if_pos h2] at hs; cases hs
      rw [if_neg h2] at hs
      by_cases h6 : t = 6
      · rw [if_pos h6] at hs; cases hs
      rw [if_neg h6] at hs
      by_cases h15 : t = 15
      · rw [if_pos h15] at hs; cases hs
      rw [if_neg h2, if_neg h15, if_neg h6]
    refine ⟨d, s, by rw [hb]; exact ⟨rfl, rfl⟩, ?_⟩
    unfold dataP
    rw [if_pos (.inr hs)]
  · have hps : ∃ ps, partsD t d = some ps := by
      unfold dataOK at hd
      by_cases h41 : t = 41
      · rw [h41] at hs; exact absurd rfl hs
      · rw [if_neg h41, if_neg (by omega)] at hd
        exact errD_zero (of_decide_eq_true hd)
    obtain ⟨ps, hp⟩ := hps
    obtain ⟨N, r, hS, hN, h20⟩ := shp_ok2 hs hp
    have hde : d.extract 0 (shp t).1 ++ (cat N ++ r) = d := by rw [← hS.eq]; exact ext_two d _ hS.ahead
    have hrr : d.extract ((shp t).1 + (cat N).size) d.size = r := by
      obtain ⟨a, ha⟩ : ∃ a, d.extract 0 (shp t).1 = a := ⟨_, rfl⟩
      have hsz : a.size = (shp t).1 := by
        rw [← ha]
        have := hS.ahead
        simp; omega
      have hd2 : (a ++ cat N) ++ r = d := by rw [ByteArray.append_assoc, ← ha]; exact hde
      have e1 : (a ++ cat N).size = (shp t).1 + (cat N).size := by rw [ByteArray.size_append, hsz]
      rw [← e1, ← hd2]
      exact extract_right _ _
    have hdp : dataP t d s = ⟨(namesP N ⟨s.out ++ d.extract 0 (shp t).1, s.tab⟩).out ++ r, (namesP N ⟨s.out ++ d.extract 0 (shp t).1, s.tab⟩).tab⟩ := by
      unfold dataP
      rw [if_neg (by omega), hS.names, hrr]
    rw [hdp]
    have hok := hS.ok
    unfold shp at hN hde ⊢
    unfold bl
    have hz : s.out ++ d.extract 0 0 = s.out := by apply ByteArray.ext; simp
    by_cases h2 : t = 2 ∨ t = 5 ∨ t = 12
    · rw [if_pos h2] at hN hde ⊢
      rw [if_pos h2]
      match N, hN, hok, hde with
      | [n], _, hok, hde =>
        have he : d = n ++ r := by
          have h := hde
          simp only [cat] at h
          rw [app_empty] at h
          rw [← h]; apply ByteArray.ext; simp
        refine ⟨r, nameL (labs n) s, ?_, ?_⟩
        · rw [he]; exact bd_name (hok n List.mem_cons_self) ⟨rfl, rfl⟩
        · show PS.mk ((nameL (labs n) ⟨s.out ++ d.extract 0 0, s.tab⟩).out ++ r) _ = _
          rw [hz]; rfl
    · rw [if_neg h2] at hN hde ⊢
      rw [if_neg h2]
      by_cases h6 : t = 6
      · rw [if_pos h6] at hN hde ⊢
        rw [if_neg (show ¬ t = 15 by omega), if_pos h6]
        match N, hN, hok, hde with
        | [n, m], _, hok, hde =>
          have he : d = n ++ (m ++ (r ++ .empty)) := by
            have h := hde
            simp only [cat] at h
            rw [app_empty] at h
            rw [← h, app_empty]; apply ByteArray.ext; simp
          have hr20 := h20 h6
          refine ⟨.empty, ⟨(nameL (labs m) (nameL (labs n) s)).out ++ r, (nameL (labs m) (nameL (labs n) s)).tab⟩, ?_, ?_⟩
          · rw [he]; exact bd_name (hok n List.mem_cons_self) (bd_name (hok m (List.mem_cons_of_mem _ List.mem_cons_self)) (bd_num (by omega) hr20 ⟨rfl, rfl⟩))
          · show PS.mk ((nameL (labs m) (nameL (labs n) ⟨s.out ++ d.extract 0 0, s.tab⟩)).out ++ r) _ = _
            rw [hz, app_empty]; rfl
      · rw [if_neg h6] at hN hde ⊢
        by_cases h15 : t = 15
        · rw [if_pos h15] at hN hde ⊢
          rw [if_pos h15]
          match N, hN, hok, hde with
          | [n], _, hok, hde =>
            have he : d = d.extract 0 2 ++ (n ++ r) := by
              have h := hde
              simp only [cat] at h
              rw [app_empty] at h
              exact h.symm
            have ha := hS.ahead
            have hsh : (shp t).1 = 2 := by unfold shp; rw [if_neg h2, if_neg h6, if_pos h15]
            rw [hsh] at ha
            have h22 : (d.extract 0 2).size = 2 := by simp; omega
            refine ⟨r, nameL (labs n) ⟨s.out ++ d.extract 0 2, s.tab⟩, ?_, by first | rfl | (rw [if_neg h6]; rfl)⟩
            have hb := bd_num (l := [0]) (k := 2) (s := s) (by omega) h22 (bd_name (r := r) (hok n List.mem_cons_self) (l := []) (d' := r) (s' := nameL (labs n) ⟨s.out ++ d.extract 0 2, s.tab⟩) ⟨rfl, rfl⟩)
            rw [← he] at hb
            exact hb
        · exfalso
          apply hs
          unfold shp
          rw [if_neg h2, if_neg h6, if_neg h15]
end Go.Proofs.YtjnmbgmdkkiidaaGreat

/-
  The reference's paper: a record is written. (The verifier's own text.)
-/
namespace Go.Proofs.YtjnmbgmdkkiidaaGreat
set_option linter.unusedVariables false
open Go.RowKit Go.Shelf Go.Maps Go.Proofs.YtjnmbgmdkkiidaaGreat.Nm

def isRegN (n : Nat) : Code → Bool
  | .region k _ _ => k == n
  | _ => false
/-- what stands behind a region -/
def tailsN (n : Nat) : Code → List Code
  | .seq a b => bif isRegN n a then [b] else tailsN n a ++ tailsN n b
  | .block _ c => tailsN n c
  | .scope c => tailsN n c
  | .cond _ a b => tailsN n a ++ tailsN n b
  | .loop c => tailsN n c
  | _ => []
/-- a byte of the row is set -/
theorem Pp.set1 {w : World} {P base g cap : Nat} {u2 u3 : Value} {s : PS} (h : Pp w P base (.slice (some ⟨g, 0, none⟩) s.out.size cap) u2 u3 s) (k x : Nat) (hk : k < s.out.size) (hx : x < 256) :
    Pp (w.setCell ⟨g, k, none⟩ (.int .u8 (x : Int))) P base (.slice (some ⟨g, 0, none⟩) s.out.size cap) u2 u3 ⟨⟨s.out.data.setIfInBounds k (UInt8.ofNat x)⟩, s.tab⟩ := by
  have hs : (⟨s.out.data.setIfInBounds k (UInt8.ofNat x)⟩ : ByteArray).size = s.out.size := Array.size_setIfInBounds
  have hP : g ≠ P := fun e => h.1.r1.nP (by rw [e]; rfl)
  have hg := grown_set w g k (.int .u8 (x : Int))
  exact ⟨⟨h.1.bx.grown hg (fun e => hP (Option.some.inj e)), ⟨by rw [hs]; exact own_setB h.1.r1.own k x hk hx, h.1.r1.nP⟩, h.1.r2.keep hg (fun q e e1 => h.1.n12 q e1 e), h.1.r3.keep hg (fun q e e1 => h.1.n13 q e1 e), h.1.bP, h.1.n12, h.1.n13, h.1.n23⟩, h.2⟩
theorem fq_set {w w' : World} {S : Nat → Prop} {S' : Nat → Prop} (h : Fq w w' S S') (g k : Nat) (v : Value) (hg : S' g) : Fq w (w'.setCell ⟨g, k, none⟩ v) S S' := by
  have hs := grown_set w' g k v
  exact ⟨hs.os.trans h.os, hs.tape.trans h.tape, hs.output.trans h.output, Nat.le_trans h.size hs.size, fun j hj hn => (hs.block j (Nat.lt_of_lt_of_le hj h.size) (fun e => by
    have e := Option.some.inj e
    subst e
    rcases h.own _ hg with e | e
    · exact hn e
    · omega)).trans (h.block j hj hn), h.own⟩
theorem Pr.hi {w : World} {P base : Nat} {v1 v2 v3 : Value} {o : ByteArray} {N L : List Value} (h : Pr w P base v1 v2 v3 o N L) : ∀ k, own3 P v1 v2 v3 k → k < w.heap.size := fun k e => by
  rcases e with e | e | e | e
  · rw [e]; exact h.bx.lt
  · exact (h.r1.lt e).2
  · exact (h.r2.lt e).2
  · exact (h.r3.lt e).2
/-- a block that no paper has -/
theorem Fq.bx {w w' : World} {S S' : Nat → Prop} {g : Nat} {cs : Array Value} {T : TypeId} (h : Fq w w' S S') (hb : Bx w g cs T) (hn : ¬ S g) : Bx w' g cs T ∧ ¬ S' g :=
  ⟨(h.block g hb.lt hn).trans hb, fun e => by
    rcases h.own g e with e | e
    · exact hn e
    · have := hb.lt; omega⟩
def IsQ (w : World) (S : Nat → Prop) (p : Option Addr) (L : List Nat) : Prop := ∀ k (hk : k < L.length), ∃ g, p = some ⟨g, 0, none⟩ ∧ g < w.heap.size ∧ ¬ S g ∧ w.cell? ⟨g, k, none⟩ = some (.int .i64 (L[k] : Int))
theorem cell_block {w w' : World} {g : Nat} (h : w'.heap[g]? = w.heap[g]?) (j : Nat) : w'.cell? ⟨g, j, none⟩ = w.cell? ⟨g, j, none⟩ := by
  simp [World.cell?, h]
theorem IsQ.keep {w w' : World} {S S' : Nat → Prop} {p : Option Addr} {L : List Nat} (h : IsQ w S p L) (f : Fq w w' S S') : IsQ w' S' p L := fun k hk => by
  obtain ⟨g, h1, h2, h3, h4⟩ := h k hk
  refine ⟨g, h1, Nat.lt_of_lt_of_le h2 f.size, fun e => ?_, (cell_block (f.block g h2 h3) k).trans h4⟩
  rcases f.own g e with e | e
  · exact h3 e
  · omega
theorem Pp.slice {w : World} {P base : Nat} {u1 u2 u3 : Value} {s : PS} (h : Pp w P base u1 u2 u3 s) (h0 : 0 < s.out.size) : ∃ g cap, u1 = .slice (some ⟨g, 0, none⟩) s.out.size cap := by
  rcases h.1.r1.own.2 with ⟨h1, h2⟩ | ⟨g, cap, cur, h1, _⟩
  · omega
  · exact ⟨g, cap, h1⟩

set_option maxRecDepth 100000 in
set_option maxHeartbeats 2000000 in
theorem rec_end (P base at_ : Nat) (v1 v2 v3 u1 u2 u3 : Value) (s : PS) (wI w0 : World) (HP : Hid (Pp w0 P base u1 u2 u3 s)) (HF : Hid (Fq wI w0 (own3 P v1 v2 v3) (own3 P u1 u2 u3))) (hat : at_ + 2 ≤ s.out.size) (hsz : s.out.size - at_ - 2 ≤ 65535) (hz : s.out.size ≤ 1099511000000) (x1 x2 x3 x5 x6 x7 x8 x9 x10 x11 x12 x13 x14 x15 x16 x17 x18 x19 x20 x21 x22 x23 x24 x25 x26 x27 x28 x29 x30 x31 x32 x33 x34 x35 x36 x37 x38 x39 x40 x41 x42 x43 x44 x45 x46 x47 x48 x49 x50 x51 x52 x53 x54 x55 x56 x57 x58 x59 x60 x61 x62 x63 x64 x65 x66 x67 x68 x69 x70 x71 x72 x73 x74 x75 x76 x77 x78 x79 x80 x81 x82 x83 x84 x85 x86 x87 x88 x89 x90 x91 x92 x93 x94 x95 x96 : Value) :
    Code.wp Tryz.prog (((Tryz.f23.body.map (tailsN 17)).getD []).getD 0 .skip) (bodyPost Tryz.prog Tryz.f23 (PpE P base v1 v2 v3 ⟨putAt s.out at_ [(s.out.size - at_ - 2) / 256, (s.out.size - at_ - 2) % 256], s.tab⟩ wI)) ⟨List.toArray ((.pointer (some ⟨P, 0, none⟩) : Value) :: x1 :: x2 :: x3 :: (.int .i64 (at_ : Int) : Value) :: x5 :: x6 :: x7 :: x8 :: x9 :: x10 :: x11 :: x12 :: x13 :: x14 :: x15 :: x16 :: x17 :: x18 :: x19 :: x20 :: x21 :: x22 :: x23 :: x24 :: x25 :: x26 :: x27 :: x28 :: x29 :: x30 :: x31 :: x32 :: x33 :: x34 :: x35 :: x36 :: x37 :: x38 :: x39 :: x40 :: x41 :: x42 :: x43 :: x44 :: x45 :: x46 :: x47 :: x48 :: x49 :: x50 :: x51 :: x52 :: x53 :: x54 :: x55 :: x56 :: x57 :: x58 :: x59 :: x60 :: x61 :: x62 :: x63 :: x64 :: x65 :: x66 :: x67 :: x68 :: x69 :: x70 :: x71 :: x72 :: x73 :: x74 :: x75 :: x76 :: x77 :: x78 :: x79 :: x80 :: x81 :: x82 :: x83 :: x84 :: x85 :: x86 :: x87 :: x88 :: x89 :: x90 :: x91 :: x92 :: x93 :: x94 :: x95 :: x96 :: []), []⟩ w0 := by
  obtain ⟨g, cap, rfl⟩ := HP.out.slice (by omega)
  obtain ⟨n, hn⟩ : ∃ n, s.out.size - at_ - 2 = n := ⟨_, rfl⟩
  rw [hn] at hsz ⊢
  have hin : (s.out.size : Int) - (at_ : Int) - 2 = (n : Int) := by omega
  have q1 : (n : Int) / 256 = ((n / 256 : Nat) : Int) := by simp
  have q2 : (n : Int).tmod 256 = ((n % 256 : Nat) : Int) := rfl
  have c0 : w0.cell? ⟨P, 0, none⟩ = some (.slice (some ⟨g, 0, none⟩) s.out.size cap) := HP.out.1.bx.cell rfl
  obtain ⟨a, ha⟩ : ∃ a, n / 256 = a := ⟨_, rfl⟩
  obtain ⟨b, hb⟩ : ∃ b, n % 256 = b := ⟨_, rfl⟩
  rw [ha] at q1 ⊢
  rw [hb] at q2 ⊢
  have ha2 : a < 256 := by omega
  have hb2 : b < 256 := by omega
  have wa : IntKind.u8.wrap (a : Int) = (a : Int) := by rw [IntWalk.u8_in] <;> omega
  have wb : IntKind.u8.wrap (b : Int) = (b : Int) := by rw [IntWalk.u8_in] <;> omega
  have p1 := HP.out.drew.set1 at_ a (by omega) ha2
  have hsz1 : (⟨s.out.data.setIfInBounds at_ (UInt8.ofNat a)⟩ : ByteArray).size = s.out.size := Array.size_setIfInBounds
  have p2 := Pp.set1 (s := ⟨⟨s.out.data.setIfInBounds at_ (UInt8.ofNat a)⟩, s.tab⟩) (cap := cap) (by rw [hsz1]; exact p1) (at_ + 1) b (by rw [hsz1]; omega) hb2
  rw [hsz1] at p2
  have P2 := hide' p2
  have hA : at_ < s.out.size := by omega
  have hA1 : at_ + 1 < s.out.size := by omega
  obtain ⟨z0, e0, f0⟩ := own_cell (w := w0) HP.out.1.r1.own at_ (by omega)
  obtain ⟨z1, e1, f1⟩ := own_cell (w := (w0.setCell ⟨g, at_, none⟩ (.int .u8 (a : Int))).drew) (by have := p1.1.r1.own; rw [hsz1] at this; exact this) (at_ + 1) (by omega)
  have HF2 := hide' (fq_set (fq_set (HF.out.trans (Fq.drew w0 _)) g at_ (.int .u8 (a : Int)) (.inr (.inl rfl))) g (at_ + 1) (.int .u8 (b : Int)) (.inr (.inl rfl)))
  clear p1 p2 hsz1
  conv => arg 2; whnf
  go_wp2
  go_region
  go_wp2
  go_end0
  exact ⟨rfl, _, _, _, P2.out, HF2.out⟩
set_option maxRecDepth 100000 in
set_option maxHeartbeats 2000000 in
theorem rec_none (P base at_ B : Nat) (v1 v2 v3 u1 u2 u3 : Value) (s : PS) (ow : ByteArray) (t c ll : Int) (d : ByteArray) (wI w0 : World) (HP : Hid (Pp w0 P base u1 u2 u3 s)) (HF : Hid (Fq wI w0 (own3 P v1 v2 v3) (own3 P u1 u2 u3))) (HX : Hid (Bx w0 B #[.string ow, .int .i64 t, .int .i64 c, .int .i64 ll, .string d] 59)) (HNB : Hid (¬ own3 P u1 u2 u3 B)) (HOK : Hid (POk s)) (hat : at_ + 2 = s.out.size) (hz : s.out.size ≤ 1099400000000) (hd0 : d = .empty) (x1 x2 x6 x7 x8 x9 x10 x11 x12 x13 x14 x15 x16 x17 x18 x19 x20 x21 x22 x23 x24 x25 x26 x27 x28 x29 x30 x31 x32 x33 x34 x35 x36 x37 x38 x39 x40 x41 x42 x43 x44 x45 x46 x47 x48 x49 x50 x51 x52 x53 x54 x55 x56 x57 x58 x59 x60 x61 x62 x63 x64 x65 x66 x67 x68 x69 x70 x71 x72 x73 x74 x75 x76 x77 x78 x79 x80 x81 x82 x83 x84 x85 x86 x87 x88 x89 x90 x91 x92 x93 x94 x95 x96 : Value) :
    Code.wp Tryz.prog (((Tryz.f23.body.map (tailsN 5)).getD []).getD 0 .skip) (bodyPost Tryz.prog Tryz.f23 (PpE P base v1 v2 v3 ⟨putAt s.out at_ [(s.out.size - at_ - 2) / 256, (s.out.size - at_ - 2) % 256], s.tab⟩ wI)) ⟨List.toArray ((.pointer (some ⟨P, 0, none⟩) : Value) :: x1 :: x2 :: (.pointer (some ⟨B, 0, none⟩) : Value) :: (.int .i64 (at_ : Int) : Value) :: (.string d : Value) :: x6 :: x7 :: x8 :: x9 :: x10 :: x11 :: x12 :: x13 :: x14 :: x15 :: x16 :: x17 :: x18 :: x19 :: x20 :: x21 :: x22 :: x23 :: x24 :: x25 :: x26 :: x27 :: x28 :: x29 :: x30 :: x31 :: x32 :: x33 :: x34 :: x35 :: x36 :: x37 :: x38 :: x39 :: x40 :: x41 :: x42 :: x43 :: x44 :: x45 :: x46 :: x47 :: x48 :: x49 :: x50 :: x51 :: x52 :: x53 :: x54 :: x55 :: x56 :: x57 :: x58 :: x59 :: x60 :: x61 :: x62 :: x63 :: x64 :: x65 :: x66 :: x67 :: x68 :: x69 :: x70 :: x71 :: x72 :: x73 :: x74 :: x75 :: x76 :: x77 :: x78 :: x79 :: x80 :: x81 :: x82 :: x83 :: x84 :: x85 :: x86 :: x87 :: x88 :: x89 :: x90 :: x91 :: x92 :: x93 :: x94 :: x95 :: x96 :: []), []⟩ w0 := by
  subst hd0
  have hc : (ByteArray.empty.toList == []) = true := by rw [toList_eq]; decide
  have he : s.out ++ .empty = s.out := app_empty _
  conv => arg 2; whnf
  go_upto_region 17 with fail
  rename_i K hK
  have HK := hide' hK
  clear hK
  go_wp2_with (go_at_call 20; refine (pput_any P base u1 u2 u3 s .empty _ HP.out (by omega) (by decide)).mono ?_; rintro e w7 ⟨rfl, t1, t2, t3, r1, r2⟩; have R1 := hide' r1; have R2 := hide' (HF.out.trans r2); rw [he] at R1; clear r1 r2)
  refine HK.out _ _ ?_
  exact rec_end P base at_ v1 v2 v3 t1 t2 t3 s wI w7 R1 R2 (by omega) (by omega) (by omega) _ _ _ _ _ _ _ _ _ _ _ _ _ _ _ _ _ _ _ _ _ _ _ _ _ _ _ _ _ _ _ _ _ _ _ _ _ _ _ _ _ _ _ _ _ _ _ _ _ _ _ _ _ _ _ _ _ _ _ _ _ _ _ _ _ _ _ _ _ _ _ _ _ _ _ _ _ _ _ _ _ _ _ _ _ _ _ _ _ _ _ _ _ _ _
set_option maxRecDepth 100000 in
set_option maxHeartbeats 2000000 in
theorem rec_some (P base at_ B : Nat) (v1 v2 v3 u1 u2 u3 : Value) (s : PS) (ow : ByteArray) (t c ll : Int) (d : ByteArray) (wI w0 : World) (HP : Hid (Pp w0 P base u1 u2 u3 s)) (HF : Hid (Fq wI w0 (own3 P v1 v2 v3) (own3 P u1 u2 u3))) (HX : Hid (Bx w0 B #[.string ow, .int .i64 t, .int .i64 c, .int .i64 ll, .string d] 59)) (HNB : Hid (¬ own3 P u1 u2 u3 B)) (HOK : Hid (POk s)) (hat : at_ + 2 = s.out.size) (hz : s.out.size ≤ 1099400000000) (hd0 : d.size ≠ 0) (hds : d.size ≤ 65535) (d' : ByteArray) (s' : PS) (HBD : Hid (Bd (bl t) d s d' s')) (x1 x2 x6 x7 x8 x9 x10 x11 x12 x13 x14 x15 x16 x17 x18 x19 x20 x21 x22 x23 x24 x25 x26 x27 x28 x29 x30 x31 x32 x33 x34 x35 x36 x37 x38 x39 x40 x41 x42 x43 x44 x45 x46 x47 x48 x49 x50 x51 x52 x53 x54 x55 x56 x57 x58 x59 x60 x61 x62 x63 x64 x65 x66 x67 x68 x69 x70 x71 x72 x73 x74 x75 x76 x77 x78 x79 x80 x81 x82 x83 x84 x85 x86 x87 x88 x89 x90 x91 x92 x93 x94 x95 x96 : Value) :
    Code.wp Tryz.prog (((Tryz.f23.body.map (tailsN 5)).getD []).getD 0 .skip) (bodyPost Tryz.prog Tryz.f23 (PpE P base v1 v2 v3 ⟨putAt (PS.mk (s'.out ++ d') s'.tab).out at_ [((PS.mk (s'.out ++ d') s'.tab).out.size - at_ - 2) / 256, ((PS.mk (s'.out ++ d') s'.tab).out.size - at_ - 2) % 256], (PS.mk (s'.out ++ d') s'.tab).tab⟩ wI)) ⟨List.toArray ((.pointer (some ⟨P, 0, none⟩) : Value) :: x1 :: x2 :: (.pointer (some ⟨B, 0, none⟩) : Value) :: (.int .i64 (at_ : Int) : Value) :: (.string d : Value) :: x6 :: x7 :: x8 :: x9 :: x10 :: x11 :: x12 :: x13 :: x14 :: x15 :: x16 :: x17 :: x18 :: x19 :: x20 :: x21 :: x22 :: x23 :: x24 :: x25 :: x26 :: x27 :: x28 :: x29 :: x30 :: x31 :: x32 :: x33 :: x34 :: x35 :: x36 :: x37 :: x38 :: x39 :: x40 :: x41 :: x42 :: x43 :: x44 :: x45 :: x46 :: x47 :: x48 :: x49 :: x50 :: x51 :: x52 :: x53 :: x54 :: x55 :: x56 :: x57 :: x58 :: x59 :: x60 :: x61 :: x62 :: x63 :: x64 :: x65 :: x66 :: x67 :: x68 :: x69 :: x70 :: x71 :: x72 :: x73 :: x74 :: x75 :: x76 :: x77 :: x78 :: x79 :: x80 :: x81 :: x82 :: x83 :: x84 :: x85 :: x86 :: x87 :: x88 :: x89 :: x90 :: x91 :: x92 :: x93 :: x94 :: x95 :: x96 :: []), []⟩ w0 := by
  have hc : (d.toList == []) = false := by
    rw [beq_eq_false_iff_ne]
    intro e
    have : d = .empty := toList_inj.1 (e.trans (by rw [toList_eq]; decide))
    rw [this] at hd0
    exact hd0 rfl
  have y1 : w0.cell? ⟨B, 1, none⟩ = some (.int .i64 t) := HX.out.cell rfl
  conv => arg 2; whnf
  go_wp2_with (go_at_call 44; refine (brief_any t _).mono ?_; rintro e w1 ⟨p1, c1, rfl, hI1, hB1⟩; have H1 := hide' (HP.out.below hB1); have F1 := hide' (HF.out.trans (Fq.of hB1 _)); have I1 : Hid (IsQ w1 (own3 P u1 u2 u3) p1 (bl t)) := (fun k hk => by obtain ⟨g, g1, g2, g3, g4⟩ := hI1 k hk; exact ⟨g, g1, g3, fun e => by have := HP.out.1.hi g e; omega, g4⟩); clear hI1 hB1)
  obtain ⟨LB, hLB⟩ : ∃ LB, bl t = LB := ⟨_, rfl⟩
  have hlen : LB.length ≤ 3 := by
    rw [← hLB]; unfold bl
    repeat' split
    all_goals decide
  rw [hLB] at HBD I1 ⊢
  go_loopw [5, 42] (fun dv iv wr => ∃ (i : Nat) (di : ByteArray) (si : PS) (a1 a2 a3 : Value), dv = .string di ∧ iv = .int .i64 (i : Int) ∧ i ≤ LB.length ∧ Hid (Bd (LB.drop i) di si d' s') ∧ Hid (Pp wr P base a1 a2 a3 si) ∧ Hid (Fq wI wr (own3 P v1 v2 v3) (own3 P a1 a2 a3)) ∧ Hid (IsQ wr (own3 P a1 a2 a3) p1 LB) ∧ Hid (POk si) ∧ si.out.size + di.size ≤ s.out.size + d.size ∧ s.out.size ≤ si.out.size) (fun _ iv _ => LB.length - (intOf iv).toNat)
  case atStart => exact ⟨0, d, s, u1, u2, u3, rfl, rfl, Nat.zero_le _, HBD, H1, F1, I1, HOK, Nat.le_refl _, Nat.le_refl _⟩
  case round =>
    obtain ⟨i, di, si, a1, a2, a3, rfl, rfl, hi, HB, H, HF2, HI, HO, hs1, hs2⟩ := hrel
    by_cases hlt : i < LB.length
    · obtain ⟨g, rfl, hg1, hg2, hcell⟩ := HI.out i hlt
      have hdrop : LB.drop i = LB[i] :: LB.drop (i + 1) := List.drop_eq_getElem_cons hlt
      rw [hdrop] at HB
      obtain ⟨k, hk⟩ : ∃ k, LB[i] = k := ⟨_, rfl⟩
      rw [hk] at HB hcell
      clear hdrop
      by_cases hk0 : k = 0
      · subst hk0
        have hb := HB.out
        unfold Bd at hb
        rw [if_pos rfl] at hb
        obtain ⟨n, r, hn, rfl, hb2⟩ := hb
        have HB2 := hide' hb2
        have HNm := hide' hn
        have hnr : (n ++ r).size = n.size + r.size := ByteArray.size_append
        have hx1 : (n ++ r).extract 0 n.size = n := extract_left _ _
        have hx2 : (n ++ r).extract n.size (n ++ r).size = r := extract_right _ _
        rw [hnr] at hx2 hs1
        have HS := hide' (name_size hn si)
        have HO2 := hide' (name_pok hn HO.out)
        clear hb2 hn HB
        go_wp2_with (first
          | (go_at_call 45; refine (whole_any n r _ HNm.out (by omega)).mono ?_; rintro e w5 ⟨rfl, rfl⟩)
          | (go_at_call 22; refine (rname_any P base a1 a2 a3 si n _ H.out HNm.out HO.out.1 (by have := HO.out.2; omega) (by omega)).mono ?_; rintro e w7 ⟨rfl, t1, t2, t3, r1, r2⟩; have R1 := hide' r1; have R2 := hide' (HF2.out.trans r2); have I2 := hide' (HI.out.keep r2); clear r1 r2))
        go_roundw
        case rel => exact ⟨i + 1, r, _, t1, t2, t3, by first | rfl | rw [hx2], by go_num, by omega, HB2, R1, R2, I2, HO2, by have := HS.out; omega, by have := HS.out; omega⟩
        case measure => simp [intOf]; omega
      · have hb := HB.out
        unfold Bd at hb
        rw [if_neg hk0] at hb
        obtain ⟨n, r, hn, rfl, hb2⟩ := hb
        have HB2 := hide' hb2
        have hnr : (n ++ r).size = n.size + r.size := ByteArray.size_append
        have hx1 : (n ++ r).extract 0 n.size = n := extract_left _ _
        have hx2 : (n ++ r).extract n.size (n ++ r).size = r := extract_right _ _
        rw [hnr] at hx2 hs1
        subst hn
        have HO2 := hide' (HO.out.more n)
        clear hb2 HB
        go_wp2_with (go_at_call 20; refine (pput_any P base a1 a2 a3 si n _ H.out (by omega) (by omega)).mono ?_; rintro e w7 ⟨rfl, t1, t2, t3, r1, r2⟩; have R1 := hide' r1; have R2 := hide' (HF2.out.trans r2); have I2 := hide' (HI.out.keep r2); clear r1 r2)
        go_roundw
        case rel => exact ⟨i + 1, r, _, t1, t2, t3, by first | rfl | rw [hx2], by go_num, by omega, HB2, R1, R2, I2, HO2, by show (si.out ++ n).size + _ ≤ _; rw [ByteArray.size_append]; omega, by show _ ≤ (si.out ++ n).size; rw [ByteArray.size_append]; omega⟩
        case measure => simp [intOf]; omega
    · obtain rfl : i = LB.length := by omega
      have hb := HB.out
      rw [List.drop_length] at hb
      obtain ⟨rfl, rfl⟩ := hb
      go_upto_region 17 with fail
      rename_i K hK
      have HK := hide' hK
      clear hK
      go_wp2_with (go_at_call 20; refine (pput_any P base a1 a2 a3 s' d' _ H.out (by omega) (by omega)).mono ?_; rintro e w7 ⟨rfl, t1, t2, t3, r1, r2⟩; have R1 := hide' r1; have R2 := hide' (HF2.out.trans r2); clear r1 r2)
      refine HK.out _ _ ?_
      have hsz : (PS.mk (s'.out ++ d') s'.tab).out.size = s'.out.size + d'.size := ByteArray.size_append
      exact rec_end P base at_ v1 v2 v3 t1 t2 t3 ⟨s'.out ++ d', s'.tab⟩ wI w7 R1 R2 (by omega) (by omega) (by omega) _ _ _ _ _ _ _ _ _ _ _ _ _ _ _ _ _ _ _ _ _ _ _ _ _ _ _ _ _ _ _ _ _ _ _ _ _ _ _ _ _ _ _ _ _ _ _ _ _ _ _ _ _ _ _ _ _ _ _ _ _ _ _ _ _ _ _ _ _ _ _ _ _ _ _ _ _ _ _ _ _ _ _ _ _ _ _ _ _ _ _ _ _ _ _
end Go.Proofs.YtjnmbgmdkkiidaaGreat
