import Derived.Test.YtclonjmhbgllkaaDoorMe7
import Derived.Lib.SlFresh
namespace Go.Proofs.YtclonjmhbgllkaaDoor
set_option linter.unusedVariables false
open Go.RowKit Go.Shelf Go.Proofs.YtclonjmhbgllkaaDoor.Nm

/-- where a row lies behind an append: where it lay, or at a new place -/
theorem run_append_place {P : Program} (w : World) (base : Nat) (t ty e : TypeId) (i : TypeInfo) (z : Value) (size bytes : Nat) (ht : P.underlying t = some (.slice e)) (hi : P.info? e = some i) (hz : i.zero = some z)
    (hsize : i.size = size) (hby : i.bytes = bytes) (hzs : z.cells.size = size) (hsz : 0 < size)
    (v : Value) (n : Nat) (xs : List Value) (hown : w.ownsRow base e size v n xs)
    (a : Addr) (m c : Nat) (news : List Value) (hl : news.length = m * size) (hnews : ∀ j u, news[j]? = some u → w.cell? (a.add j) = some u) (h1 : ∀ u ∈ news, u.oneCell' = true)
    (h63 : n + m ≤ maxLen) (hbytes : (n + m) * bytes ≤ 140737488355328) (hbase : base ≤ w.heap.size) :
    ∃ v' w', (Builtin.append_ #[t, t] ty #[v, .slice (some a) m c]).run P w = .ok v' w' ∧ w'.ownsRow base e size v' (n + m) (xs ++ news) ∧ w.grownBy w' v.ownBlock ∧
      (v'.ownBlock = v.ownBlock ∨ v'.ownBlock = some w.heap.size) := by
  obtain ⟨v', w', hr, h2, h3, h4⟩ := run_append_own (P := P) w base t ty e i z size bytes ht hi hz hsize hby hzs hsz v n xs hown a m c news hl hnews h1 h63 hbytes hbase
  refine ⟨v', w', hr, h2, h3, ?_⟩
  subst hsize
  subst hby
  have hsmall : n + m ≤ 9223372036854775807 := by simp only [maxLen] at h63; omega
  rcases hown.2 with ⟨rfl, rfl⟩ | ⟨g, cap, cur, rfl, hbg, hg, hnc, hcm, hcs, htake⟩
  · by_cases hm : m = 0
    · rw [h4.2 ⟨rfl, hm⟩]; exact .inl rfl
    · rw [run_append_nil (P := P) w t ty e i z ht hi hz a m c news hl hnews (by omega) (by omega) (by have hb := hbytes; simp only [Nat.zero_add] at hb; omega)] at hr
      injection hr with hr1 hr2
      rw [← hr1]; exact .inr rfl
  · by_cases hroom : n + m ≤ cap
    · rw [run_append_room (P := P) w t ty e i ht hi g n cap cur hg a m c news hl hnews h1 hroom (by rw [hl, hcs, ← Nat.add_mul]; exact Nat.mul_le_mul_right _ hroom)] at hr
      injection hr with hr1 hr2
      rw [← hr1]; exact .inl rfl
    · rw [run_append_grow (P := P) w t ty e i z ht hi hz ⟨g, 0, none⟩ n cap xs hown.1 (hown.cells (g := g) rfl) a m c news hl hnews (by omega) (by omega) (growslice_fits (by omega) hbytes)] at hr
      injection hr with hr1 hr2
      rw [← hr1]; exact .inr rfl
/-- .. for the walk -/
theorem wpList_append_apart {P : Program} (w : World) {ops : Array Oper} {rest : List Oper} {o : Oper} {a : Act} {Q : Exit → Act → World → Prop} (hgd : o.guard = none) (s x : Operand) (t : TypeId)
    (ho : o.op = .call { callee := .builtin .append, args := #[s, x], argTypes := #[t, t] })
    (base : Nat) (e : TypeId) (i : TypeInfo) (z : Value) (size bytes : Nat) (ht : P.underlying t = some (.slice e)) (hi : P.info? e = some i) (hz : i.zero = some z)
    (hsize : i.size = size) (hby : i.bytes = bytes) (hzs : z.cells.size = size) (hsz : 0 < size)
    (v : Value) (n : Nat) (xs : List Value) (hs : a.eval s = v) (hown : w.ownsRow base e size v n xs)
    (ad : Addr) (m c : Nat) (news : List Value) (hx : a.eval x = .slice (some ad) m c) (hl : news.length = m * size) (hnews : ∀ j u, news[j]? = some u → w.cell? (ad.add j) = some u) (h1 : ∀ u ∈ news, u.oneCell' = true)
    (h63 : n + m ≤ maxLen) (hbytes : (n + m) * bytes ≤ 140737488355328) (hbase : base ≤ w.heap.size)
    (h : ∀ v' w', w'.ownsRow base e size v' (n + m) (xs ++ news) → w.grownBy w' v.ownBlock → (v'.ownBlock = v.ownBlock ∨ v'.ownBlock = some w.heap.size) → wpList P ops Q rest (a.put o.dst v') w') : wpList P ops Q (o :: rest) a w := by
  obtain ⟨v', w', hr, h2, h3, h4⟩ := run_append_place (P := P) w base t o.type e i z size bytes ht hi hz hsize hby hzs hsz v n xs hown ad m c news hl hnews h1 h63 hbytes hbase
  exact Go.Lib.wpList_append_run_sl w hgd s x t ho v _ hs hx hr (h v' w' h2 h3 h4)

/-- an entry, the block of its words and their room -/
abbrev Ez := En × Nat × Nat
def encE (z : Ez) : List Value := [.int .i64 (z.1.l : Int), .bool z.1.b, .slice (some ⟨z.2.1, 0, none⟩) z.1.ws.length z.2.2]
def ecells (Z : List Ez) : List Value := Z.flatMap encE
theorem ecells_app (Z : List Ez) (z : Ez) : ecells (Z ++ [z]) = ecells Z ++ encE z := by simp [ecells]
def WR (w : World) (base : Nat) (z : Ez) : Prop := w.ownsRow base 33 2 (.slice (some ⟨z.2.1, 0, none⟩) z.1.ws.length z.2.2) z.1.ws.length (wcells z.1.ws)
theorem WR.lt {w : World} {base : Nat} {z : Ez} (h : WR w base z) : base ≤ z.2.1 ∧ z.2.1 < w.heap.size := World.ownsRow.lt h z.2.1 rfl
theorem WR.kept {w w' : World} {base : Nat} {z : Ez} {r : Option Nat} (h : WR w base z) (hg : w.grownBy w' r) (hne : some z.2.1 ≠ r) : WR w' base z :=
  World.ownsRow.kept h hg (.inr hne)
/-- entries in memory, with their places -/
structure EZ (w : World) (base : Nat) (v : Value) (Z : List Ez) : Prop where
  own : w.ownsRow base 31 3 v Z.length (ecells Z)
  rows : ∀ z ∈ Z, WR w base z
  apart : ∀ z ∈ Z, v.ownBlock ≠ some z.2.1
  asc : Z.Pairwise (fun a b => a.2.1 < b.2.1)
def EL (w : World) (base : Nat) (v : Value) (L : List En) : Prop := ∃ Z : List Ez, Z.map (·.1) = L ∧ EZ w base v Z
theorem EZ.grown {w w' : World} {base g : Nat} {v : Value} {Z : List Ez} (h : EZ w base v Z) (hg : w.grownBy w' (some g)) (hb : g < base) : EZ w' base v Z := by
  refine ⟨h.own.kept hg ?_, fun z hz => (h.rows z hz).kept hg ?_, h.apart, h.asc⟩
  · by_cases hv : v.ownBlock = none
    · exact .inl hv
    · right
      intro he
      have := h.own.lt g he
      omega
  · intro he
    have := (h.rows z hz).lt
    injection he with he
    omega
theorem EZ.below {w w' : World} {base : Nat} {v : Value} {Z : List Ez} (h : EZ w base v Z) (hb : Below w.heap.size w w') : EZ w' base v Z := by
  refine ⟨h.own.kept (grown_below hb none) ?_, fun z hz => (h.rows z hz).kept (grown_below hb none) (by simp), h.apart, h.asc⟩
  by_cases hv : v.ownBlock = none
  · exact .inl hv
  · exact .inr hv
theorem EZ.nil (w : World) (base : Nat) : EZ w base (.slice none 0 0) [] := ⟨World.ownsRow_nil _ _ _ _, (fun z hz => by cases hz), (fun z hz => by cases hz), List.Pairwise.nil⟩
/-- an entry more -/
theorem EZ.push {w w3 w6 : World} {base g : Nat} {v v' : Value} {Z : List Ez} {z : Ez} {o1 o2 : Obj} (h : EZ w base v Z) (hg : w.grownBy w3 (some g)) (hb : g < base) (hbase : base ≤ w.heap.size)
    (hz : WR w3 w.heap.size z) (hown : w6.ownsRow base 31 3 v' (Z.length + 1) (ecells Z ++ encE z)) (hgr : ((w3.alloc o1).alloc o2).grownBy w6 v.ownBlock)
    (hpl : v'.ownBlock = v.ownBlock ∨ v'.ownBlock = some ((w3.alloc o1).alloc o2).heap.size) : EZ w6 base v' (Z ++ [z]) := by
  have h3 := h.grown hg hb
  have hvl : ∀ q, v.ownBlock = some q → q < w.heap.size := fun q hq => (h.own.lt q hq).2
  have hz3 := hz.lt
  have hs3 : w.heap.size ≤ w3.heap.size := hg.size
  have hk : ∀ y, WR w3 base y → (∀ q, v.ownBlock = some q → q ≠ y.2.1) → WR w6 base y := by
    intro y hy hne
    have h1 : WR ((w3.alloc o1).alloc o2) base y := World.ownsRow.alloc (World.ownsRow.alloc hy o1) o2
    refine h1.kept hgr ?_
    intro he
    exact hne _ he.symm rfl
  refine ⟨by rw [List.length_append, ecells_app]; exact hown, ?_, ?_, ?_⟩
  · intro y hy
    rcases List.mem_append.1 hy with hy | hy
    · exact hk y (h3.rows y hy) (fun q hq e => h.apart y hy (by rw [hq, e]))
    · obtain rfl := List.mem_singleton.1 hy
      exact hk _ (owns_base hz hbase) (fun q hq e => by have := hvl q hq; omega)
  · intro y hy
    have hs : ((w3.alloc o1).alloc o2).heap.size = w3.heap.size + 2 := by simp
    rcases hpl with hp | hp
    · rw [hp]
      rcases List.mem_append.1 hy with hy | hy
      · exact h.apart y hy
      · obtain rfl := List.mem_singleton.1 hy
        intro e
        have := hvl _ e; omega
    · rw [hp, hs]
      intro e
      injection e with e
      rcases List.mem_append.1 hy with hy | hy
      · have := (h3.rows y hy).lt; omega
      · obtain rfl := List.mem_singleton.1 hy
        omega
  · rw [List.pairwise_append]
    refine ⟨h.asc, List.pairwise_singleton _ _, fun a ha b hb2 => ?_⟩
    obtain rfl := List.mem_singleton.1 hb2
    have := (h.rows a ha).lt; omega
theorem owns_some2 {w : World} {base e size : Nat} {p : Option Addr} {n c : Nat} {xs : List Value} (h : w.ownsRow base e size (.slice p n c) n xs) (hn : 0 < n) : ∃ b, p = some ⟨b, 0, none⟩ := by
  obtain ⟨hl, (⟨h1, h2⟩ | ⟨g, cap, cur, h1, rest⟩)⟩ := h
  · omega
  · injection h1 with h1 h2 h3; exact ⟨g, h1⟩
theorem Tryd.infoEntry : (Tryd.prog.info? 31).map (fun i => (i.zero, i.size, i.bytes)) = some (some (.agg #[.int .i64 0, .bool false, .slice none 0 0]), 3, 40) := by kernel_rfl
def scanEnd (r : Rs) (f : ByteArray) (w : World) (e : Ending) (w' : World) : Prop :=
  match r with
  | .inr L => ∃ v, e = .returned (.tuple #[v, .nilIface]) ∧ EL w' w.heap.size v L ∧ Below w.heap.size w w'
  | .inl (c, l) => e = .returned (.tuple #[.slice none 0 0, .iface 54 (errA f c l)]) ∧ Below w.heap.size w w'

set_option maxRecDepth 100000 in
set_option maxHeartbeats 4000000 in
/-- master.scan -/
theorem scan_any (f t : ByteArray) (w : World) (ht : t.size ≤ 1048576) :
    Calls Tryd.prog 7 #[.agg #[.string f, .string t]] w (scanEnd (entsB t) f w) := by
  obtain ⟨i0, hi, hz0, hz1, hz2⟩ := info_parts Tryd.infoEntry
  have HMo := hide2 (fun (k l : Nat) (w1 : World) (h : Sc w1 (w.heap.size + 1) f t k l) => more_any (w.heap.size + 1) f t k l w1 h ht)
  obtain ⟨wa, hwa⟩ : ∃ wa, w.alloc (.cells #[.string f, .string t] 40) = wa := ⟨_, rfl⟩
  have za : wa.heap.size = w.heap.size + 1 := by rw [← hwa]; simp
  have a0 : wa.cell? ⟨w.heap.size, 0, none⟩ = some (.string f) := hwa ▸ new_cell rfl _ _ _
  have a1 : wa.cell? ⟨w.heap.size, 1, none⟩ = some (.string t) := hwa ▸ new_cell rfl _ _ _
  obtain ⟨wb, hwb⟩ : ∃ wb, wa.alloc (.cells #[.string f, .string t, .int .i64 0, .int .i64 1] 48) = wb := ⟨_, rfl⟩
  have hsb : Sc wb (w.heap.size + 1) f t 0 1 := by
    have := World.alloc_heap_new wa (.cells #[.string f, .string t, .int .i64 0, .int .i64 1] 48)
    rw [za, hwb] at this
    exact this
  have zb : wb.heap.size = w.heap.size + 2 := by rw [← hwb]; simp [za]
  have HBb : Hid (Below w.heap.size w wb) := by rw [← hwb, ← hwa]; exact ((Below.refl _ w).alloc (Nat.le_refl _) _).alloc (by simp) _
  go_enter Tryd.func7, Tryd.ntmps7
  go_wp2_with fail
  clear hwa hwb a0 a1
  go_loopw [4] (fun v wr => ∃ (k l : Nat) (L : List En), k ≤ t.size + 1 ∧ 1 ≤ l ∧ l ≤ 1 + k ∧ L.length ≤ k ∧ Hid (entsB t = ents t k l L) ∧ Sc wr (w.heap.size + 1) f t k l ∧ EL wr (w.heap.size + 2) v L ∧ Below w.heap.size w wr ∧ w.heap.size + 2 ≤ wr.heap.size)
    (fun _ wr => t.size + 1 - (match wr.cell? ⟨w.heap.size + 1, 2, none⟩ with | some (.int _ n) => n.toNat | _ => 0))
  case atStart => exact ⟨0, 1, [], by omega, by omega, by omega, Nat.le_refl _, rfl, hsb, ⟨[], rfl, EZ.nil _ _⟩, HBb.out, by omega⟩
  case round =>
    obtain ⟨k, l, L, hk, hl1, hl2, hLk, HR, hS, hL, hB, hsz⟩ := hrel
    clear hsb zb HBb za
    have HM := hide2 hS.c2
    have HMo1 := hide2 (HMo.out k l)
    by_cases hlt : k < t.size
    · have hd : decide (k < t.size) = true := decide_eq_true hlt
      rw [hd] at HMo1
      have HE := hide2 (fun (w1 : World) (h : Sc w1 (w.heap.size + 1) f t k l) => entry_any (w.heap.size + 1) f t k l w1 h ht hlt hl1 hl2)
      cases he : ent t k l 0 [] with
      | inl zz =>
        obtain ⟨c, l2⟩ := zz
        rw [he] at HE
        have HQ : Hid (entsB t = .inl (c, l2)) := by unfold Hid; rw [HR.out, ents, if_pos hlt, he]
        clear HR he hL HM
        go_wp2_with (first | (go_at_call 12; refine (HMo1.out _ hS).mono ?_; rintro e w2 ⟨rfl, m, hm⟩; have hS2 : Sc w2 (w.heap.size + 1) f t k l := hm ▸ hS.drewN m; have hB2 : Below w.heap.size w w2 := hm ▸ below_drewN hB m; clear hm) | (go_at_call 13; refine (HE.out _ hS2).mono ?_; rintro e w3 ⟨rfl, hg3⟩; have hB3 := hide2 (hB2.grown hg3 hB2.size (fun q hq => by injection hq with hq; omega)); clear hg3))
        go_ret2
        rw [HQ.out]
        exact ⟨rfl, hB3.out.alloc hB3.out.size _⟩
      | inr zz =>
        obtain ⟨k2, l2, ws⟩ := zz
        rw [he] at HE
        have hgd := ent_good t k l 0 [] k2 l2 ws (by omega) he
        have HQ : Hid (entsB t = ents t k2 l2 (putE L l (isBl (bt t k)) ws)) := by unfold Hid; rw [HR.out, ents, if_pos hlt, he]; simp only [if_pos hgd.1]
        by_cases hw0 : ws.length = 0
        · have HP : Hid (putE L l (isBl (bt t k)) ws = L) := by unfold Hid putE; rw [if_pos hw0]
          rw [HP.out] at HQ
          clear HR he HP
          go_wp2_with (first | (go_at_call 12; refine (HMo1.out _ hS).mono ?_; rintro e w2 ⟨rfl, m, hm⟩; have hS2 : Sc w2 (w.heap.size + 1) f t k l := hm ▸ hS.drewN m; have hB2 : Below w.heap.size w w2 := hm ▸ below_drewN hB m; have hL2 : EL w2 (w.heap.size + 2) u4 L := hm ▸ (by obtain ⟨Z, h1, h2⟩ := hL; exact ⟨Z, h1, h2.below (quiet_below m)⟩); clear hm) | (go_at_call 13; refine (HE.out _ hS2).mono ?_; rintro e w3 ⟨p, cp, rfl, hrow, hS3, hg3⟩; rw [hw0] at *))
          have hB3 := hB2.grown hg3 hB2.size (fun q hq => by injection hq with hq; omega)
          have hs2 : w.heap.size + 2 ≤ w3.heap.size := by have := hS3.lt; have := hg3.size; have := hB2.size; have h0 := hS2.lt; omega
          have hS4 := hS3.alloc (.cells #[.int .i64 (l : Int), .bool (isBl (bt t k)), .slice p 0 cp] 31)
          refine ⟨⟨k2, l2, L, by omega, by omega, by omega, by omega, HQ, hS4, ?_, hB3.alloc hB3.size _, by simp; omega⟩, ?_⟩
          · obtain ⟨Z, h1, h2⟩ := hL2
            exact ⟨Z, h1, (h2.grown hg3 (by omega)).below ((Below.refl _ w3).alloc (Nat.le_refl _) _)⟩
          · rw [HM.out, hS4.c2]; simp; omega
        · have HP : Hid (putE L l (isBl (bt t k)) ws = L ++ [⟨l, isBl (bt t k), ws⟩]) := by unfold Hid putE; rw [if_neg hw0]
          rw [HP.out] at HQ
          have hws : ws.length ≤ k2 := by simp at hgd; omega
          have hwp : 0 < ws.length := by omega
          obtain ⟨nw, hnw⟩ : ∃ nw, ws.length = nw := ⟨_, rfl⟩
          have HN := hide2 hnw
          have hwp2 : (0 : Int) < (nw : Int) := by omega
          clear HR he HP hw0
          go_upto_region 8 with (first | (go_at_call 12; refine (HMo1.out _ hS).mono ?_; rintro e w2 ⟨rfl, m, hm⟩; have hS2 : Sc w2 (w.heap.size + 1) f t k l := hm ▸ hS.drewN m; have hB2 : Below w.heap.size w w2 := hm ▸ below_drewN hB m; have hL2 : EL w2 (w.heap.size + 2) u4 L := hm ▸ (by obtain ⟨Z, h1, h2⟩ := hL; exact ⟨Z, h1, h2.below (quiet_below m)⟩); have hzz : w.heap.size + 2 ≤ w2.heap.size := hm ▸ hsz; clear hm) | (go_at_call 13; refine (HE.out _ hS2).mono ?_; rintro e w3 ⟨p, cp, rfl, hrow, hS3, hg3⟩; obtain ⟨b, rfl⟩ := owns_some2 hrow hwp; obtain ⟨Z, hZ1, hZ2⟩ := hL2; have HZ := hide2 hZ2; have HW := hide2 hrow; have HG3 := hide2 hg3; have hz3 := hg3.size; have HO := hide2 (hZ2.grown hg3 (by omega)).own; clear hZ2 hrow hg3; rw [hnw]))
          go_wp2_with (at_builtin; refine wpList_append_apart _ rfl _ _ 22 rfl (w.heap.size + 2) 31 i0 (.agg #[.int .i64 0, .bool false, .slice none 0 0]) 3 40 Tryd.underlying22 hi hz0 hz1 hz2 rfl (by decide) _ _ _ rfl ((HO.out.alloc _).alloc _) ⟨w3.heap.size + 1, 0, none⟩ 1 1 [.int .i64 (l : Int), .bool (isBl (bt t k)), .slice (some ⟨b, 0, none⟩) nw cp] rfl rfl (cells_new (by simp) #[.int .i64 (l : Int), .bool (isBl (bt t k)), .slice (some ⟨b, 0, none⟩) nw cp] 31) (by simp [Value.oneCell']) (by rw [← List.length_map (f := (·.1)), hZ1]; unfold maxLen; omega) (by rw [← List.length_map (f := (·.1)), hZ1]; omega) (by simp; omega) ?_; intro v6 w6 hown6 hgrow6 hpl6; have HO6 := hide2 hown6; have HG6 := hide2 hgrow6; have HP6 := hide2 hpl6; clear hown6 hgrow6 hpl6)
          have hB3 := hB2.grown HG3.out hB2.size (fun q hq => by injection hq with hq; omega)
          have hle : ∀ q, u4.ownBlock = some q → w.heap.size + 2 ≤ q := fun q hq => (HO.out.lt q hq).1
          obtain rfl := HN.out
          have hE6 := EZ.push (z := (⟨l, isBl (bt t k), ws⟩, b, cp)) HZ.out HG3.out (by omega) hzz HW.out HO6.out HG6.out HP6.out
          have hsz3 : w3.heap.size + 2 ≤ w6.heap.size := by have := HG6.out.size; simp at this; omega
          have hS6 : Sc w6 (w.heap.size + 1) f t k2 l2 := by
            refine (HG6.out.block (w.heap.size + 1) (by simp; omega) (fun e => ?_)).trans ((hS3.alloc _).alloc _)
            have := hle _ e.symm; omega
          refine ⟨⟨k2, l2, L ++ [⟨l, isBl (bt t k), ws⟩], by omega, by omega, by omega, by simp; omega, HQ, hS6, ⟨_, by rw [List.map_append, hZ1]; rfl, hE6⟩, ?_, by omega⟩, ?_⟩
          · exact ((hB3.alloc hB3.size _).alloc (by have := hB3.size; simp; omega) _).grown HG6.out (by have := hB3.size; simp; omega) (fun q hq => by have := hle q hq; omega)
          · rw [HM.out, hS6.c2]; simp; omega
    · have hd : decide (k < t.size) = false := decide_eq_false hlt
      rw [hd] at HMo1
      have HQ : Hid (entsB t = .inr L) := by unfold Hid; rw [HR.out, ents, if_neg hlt]
      clear HR
      go_wp2_with (go_at_call 12; refine (HMo1.out _ hS).mono ?_; rintro e w2 ⟨rfl, m, hm⟩; have hB2 : Below w.heap.size w w2 := hm ▸ below_drewN hB m; have hL2 : EL w2 (w.heap.size + 2) u4 L := hm ▸ (by obtain ⟨Z, h1, h2⟩ := hL; exact ⟨Z, h1, h2.below (quiet_below m)⟩); clear hm)
      go_ret2
      rw [HQ.out]
      obtain ⟨Z, h1, h2⟩ := hL2
      exact ⟨u4, rfl, ⟨Z, h1, ⟨owns_base h2.own (by omega), fun z hz => owns_base (h2.rows z hz) (by omega), h2.apart, h2.asc⟩⟩, hB2⟩
end Go.Proofs.YtclonjmhbgllkaaDoor
