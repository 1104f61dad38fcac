import Derived.Test.YtfacfhigehdejaaGreatDoorDbpG
/-
  Proofs: any field read from the words that tell it, by its kind's method. (The verifier's own text.)
-/
namespace Go.Proofs.YtfacfhigehdejaaGreatDoor
set_option linter.unusedVariables false
set_option linter.unusedSimpArgs false
open Go.RowKit Go.Shelf Go.Proofs.YtfacfhigehdejaaGreatDoor.Nm

def kRd : Kind → Nat
  | 0 => 101 | 1 => 138 | 2 => 118 | 3 => 130 | 4 => 135 | 5 => 147 | 6 => 155
  | 7 => 204 | 8 => 206 | 9 => 174 | 10 => 151 | 11 => 211 | 12 => 214 | _ + 13 => 95
theorem method_read (n : Nat) (k : Kind) (w : World) : (method (n + 1) (kT k) (kR k) "gazetteer/data.read").run Tryz.prog w = .ok (kRd k, kR k) w := by
  rcases kind_cases k with rfl | rfl | rfl | rfl | rfl | rfl | rfl | rfl | rfl | rfl | rfl | rfl | rfl | ⟨n, rfl⟩ <;> kernel_rfl
theorem enter_read (k : Kind) (args : Array Value) (w : World) : (callFunc (kRd k) args).run Tryz.prog w = .ok (.enter (kRd k) args) w := by
  rcases kind_cases k with rfl | rfl | rfl | rfl | rfl | rfl | rfl | rfl | rfl | rfl | rfl | rfl | rfl | ⟨n, rfl⟩ <;> kernel_rfl
/-- kinds whose words go on to the end -/
def endR (k : Kind) : Bool := decide ((k : Nat) = 4 ∨ (k : Nat) = 5 ∨ (k : Nat) = 6 ∨ (k : Nat) = 9)
/-- kinds of fields that are known -/
def kKn (k : Kind) : Bool := decide ((k : Nat) ≤ 11 ∨ (k : Nat) = 14 ∨ (k : Nat) = 15 ∨ (k : Nat) = 17)
theorem kKn_ok {k : Kind} (h : kKn k = true) : kOk k = true := by
  unfold kKn at h
  unfold kOk
  have h1 : (k : Nat) ≤ 11 ∨ (k : Nat) = 14 ∨ (k : Nat) = 15 ∨ (k : Nat) = 17 := of_decide_eq_true h
  refine decide_eq_true ?_
  show (k : Nat) ≤ 17
  rcases h1 with e | e | e | e
  · exact Nat.le_trans e (by decide)
  · exact Nat.le_trans (Nat.le_of_eq e) (by decide)
  · exact Nat.le_trans (Nat.le_of_eq e) (by decide)
  · exact Nat.le_of_eq e
theorem hash_two {b : ByteArray} (h : hashS b = some b.size) : 1 < b.size := by
  unfold hashS at h
  split at h
  · cases h
  · rename_i hno
    have h4 := cntS_some h
    rcases Nat.lt_or_ge 1 b.size with h5 | h5
    · exact h5
    · exfalso
      have h6 : b.size = 1 := by omega
      unfold cntS at h
      split at h
      · cases h
      · simp only [Option.some.injEq] at h
        exact hno (.inr (by omega))
theorem cnt_chunk {b : ByteArray} (h : cntS b = some b.size) : (b.extract 1 b.size).size ≤ 255 ∧ b = chunk (b.extract 1 b.size) := by
  obtain ⟨x, hx, hm, hxe⟩ := cntS_chunk h
  rw [ext_full] at hxe
  have e : b.extract 1 b.size = x := by
    rw [hxe]
    exact chunk_tail
  rw [e]
  exact ⟨hx, hxe⟩
theorem readK_any (W0 : World) (L : Nat) (q : Option Addr) (c : Nat) (Z : List Wz) (o : ByteArray) (n : Nat) (k : Kind) (b : ByteArray) (w : World) (h : Ln W0 L q c Z o n w) (hk : kKn k = true) (hs : kindSize k b = some b.size) (hb : b.size ≤ 65535) (ho : isN o = true) (hG : GD W0)
    (hz : ∀ j (hj : j < (tellK k b).length), Z[n + j]? = some (tellK k b)[j]) (he : endR k = true → n + (tellK k b).length = Z.length) :
    Calls Tryz.prog (kRd k) #[kR k, .pointer (some ⟨L, 0, none⟩)] w (RdE W0 L q c Z o (n + (tellK k b).length) b w) := by
  rcases kind_cases k with rfl | rfl | rfl | rfl | rfl | rfl | rfl | rfl | rfl | rfl | rfl | rfl | rfl | ⟨m, rfl⟩
  · simp only [kindSize, fixS] at hs
    exact readIp4_any W0 L q c Z o n b w h (by split at hs <;> simp at hs; omega) (hz 0 (Nat.zero_lt_one)) hG
  · simp only [kindSize, fixS] at hs
    exact readIp6_any W0 L q c Z o n b w h (by split at hs <;> simp at hs; omega) (hz 0 (Nat.zero_lt_one)) hG
  · have hd := (domS_some hs).2.2.2
    rw [ext_full] at hd
    exact readDom_any W0 L q c Z o n b w h hd ho (hz 0 (Nat.zero_lt_one)) hG
  · obtain ⟨h1, h2⟩ := cnt_chunk hs
    exact readText_any W0 L q c Z o n b w h _ h1 h2 (hz 0 (Nat.zero_lt_one)) hG
  · obtain ⟨x, X, hX, rfl⟩ := txtS_row hs
    have e : tellK 4 (chunks (x :: X)) = (x :: X).map txW := txtW_chunks (x :: X) _ hX (chunks_len _)
    have hen := he rfl
    rw [e, List.length_map] at hen ⊢
    refine readTexts_any W0 L q c Z o n (x :: X) w h hX (by simp) hen (fun j hj => ?_) hb hG
    have := hz j (by rw [e, List.length_map]; exact hj)
    simp only [e, List.getElem_map] at this
    exact this
  · have h0 : 0 < b.size := by simp only [kindSize, endS] at hs; split at hs <;> simp at hs; omega
    exact readHex_any W0 L q c Z o n b w h hb h0 (hz 0 (Nat.zero_lt_one)) (he rfl)
  · have h0 : 0 < b.size := by simp only [kindSize, endS] at hs; split at hs <;> simp at hs; omega
    exact readBase64_any W0 L q c Z o n b w h hb h0 (hz 0 (Nat.zero_lt_one)) (he rfl)
  · obtain ⟨h1, h2⟩ := cnt_chunk hs
    by_cases e1 : b.size = 1
    · have e : tellK 7 b = [⟨[45], false⟩] := by show (if b.size = 1 then _ else _) = _; rw [if_pos e1]
      simp only [e] at hz ⊢
      have hx : b.extract 1 b.size = ⟨#[]⟩ := by
        refine ba_ext (by rw [size_tail]; show _ = 0; omega) fun j hj => ?_
        rw [size_tail] at hj; omega
      rw [hx] at h2
      exact readSalt0_any W0 L q c Z o n b w h h2 (hz 0 (Nat.zero_lt_one))
    · have e : tellK 7 b = [⟨lsB (toWB 4 d16 (b.extract 1 b.size)), false⟩] := by show (if b.size = 1 then _ else _) = _; rw [if_neg e1]
      simp only [e] at hz ⊢
      have h3 := (cntS_some hs).1
      exact readSalt1_any W0 L q c Z o n b w h _ h1 (by rw [size_tail]; omega) h2 (hz 0 (Nat.zero_lt_one))
  · have h4 := hash_two hs
    have h5 : cntS b = some b.size := by
      simp only [kindSize] at hs
      unfold hashS at hs
      split at hs
      · cases hs
      · exact hs
    obtain ⟨h1, h2⟩ := cnt_chunk h5
    exact readHash_any W0 L q c Z o n b w h _ h1 (by rw [size_tail]; omega) h2 (hz 0 (Nat.zero_lt_one))
  · simp only [kindSize, setS] at hs
    cases ht : typB b with
    | none => rw [ht] at hs; cases hs
    | some U =>
      have e : tellK 9 b = U.map fun t : Nat => ⟨lsB (nameT (t : Int)), false⟩ := by show ((typB b).getD []).map _ = _; rw [ht]; rfl
      have hen := he rfl
      rw [e, List.length_map] at hen ⊢
      refine readSet_any W0 L q c Z o n b U w h ht hb hen (fun j hj => ?_) hG
      have := hz j (by rw [e, List.length_map]; exact hj)
      simp only [e, List.getElem_map] at this
      exact this
  · simp only [kindSize] at hs
    unfold oneS at hs
    split at hs
    · cases hs
    · rename_i hno
      simp only [Option.some.injEq] at hs
      have h0 := bt_lt b 0
      have h1 := bt_lt b 1
      have hv : vN b b.size = bt b 0 * 256 + bt b 1 := by
        rw [← hs]
        simp [vN]
      have hnb := nB_vN (b := b) (by omega)
      rw [← hs] at hnb
      have hvv : vN b 2 = bt b 0 * 256 + bt b 1 := by simp [vN]
      refine readOne_any W0 L q c Z o n b w h (vN b b.size) (by omega) (by omega) (by rw [← hs]; exact hnb) (hz 0 (Nat.zero_lt_one)) hG
  · exact readTail_any W0 L q c Z o n b w h hb (hz 0 (Nat.zero_lt_one)) hG
  · cases hk
  · have hm : m = 1 ∨ m = 2 ∨ m = 4 := by
      unfold kKn at hk
      have h17 : (m + 13 : Nat) ≤ 11 ∨ (m + 13 : Nat) = 14 ∨ (m + 13 : Nat) = 15 ∨ (m + 13 : Nat) = 17 := of_decide_eq_true hk
      omega
    simp only [kindSize, fixS] at hs
    have hz4 : b.size = m := by split at hs <;> simp at hs; omega
    have hnb := nB_vN (b := b) (by omega)
    have hv := vN_lt b b.size
    rw [hz4] at hnb hv
    refine readNum_any W0 L q c Z o n b w h m (vN b m) hm hv hnb ?_ hG
    have h8 : Z[n + 0]? = some ⟨dgN (vN b b.size), false⟩ := hz 0 (Nat.zero_lt_one)
    rw [hz4] at h8
    exact h8
end Go.Proofs.YtfacfhigehdejaaGreatDoor

/-
  Proofs: how long a builder's text is; all fields read. (The verifier's own text.)
-/
namespace Go.Proofs.YtfacfhigehdejaaGreatDoor
set_option linter.unusedVariables false
set_option linter.unusedSimpArgs false
open Go.RowKit Go.Shelf Go.Proofs.YtfacfhigehdejaaGreatDoor.Nm

/-- whose words go on to the end stands last -/
def lastK : List Kind → Bool
  | [] => true
  | k :: ks => (!endR k || ks.isEmpty) && lastK ks
theorem lastK_at : ∀ {ks : List Kind} {i : Nat} (h : i < ks.length), lastK ks = true → endR ks[i] = true → i + 1 = ks.length
  | [], i, h, _, _ => absurd h (Nat.not_lt_zero _)
  | k :: ks, 0, h, hl, he => by
    unfold lastK at hl
    rw [Bool.and_eq_true] at hl
    have h1 := hl.1
    simp only [List.getElem_cons_zero] at he
    rw [he] at h1
    simp at h1
    rw [h1]; rfl
  | k :: ks, i + 1, h, hl, he => by
    unfold lastK at hl
    rw [Bool.and_eq_true] at hl
    have := lastK_at (ks := ks) (i := i) (by simpa using h) hl.2 (by simpa using he)
    rw [List.length_cons]; omega
/-- the kinds of a type's fields -/
theorem kinds_known {t : Int} {ks : List Kind} (h : kindsOf t = some ks) : ((∀ k ∈ ks, kKn k = true) ∧ lastK ks = true ∧ ks ≠ []) ∨ ks = [12] := by
  unfold kindsOf at h
  by_cases hc : t = 1
  · rw [if_pos hc] at h; cases h; exact .inl ⟨by decide, by decide, by decide⟩
  rw [if_neg hc] at h; clear hc
  by_cases hc : t = 2 ∨ t = 5 ∨ t = 12 ∨ t = 39
  · rw [if_pos hc] at h; cases h; exact .inl ⟨by decide, by decide, by decide⟩
  rw [if_neg hc] at h; clear hc
  by_cases hc : t = 6
  · rw [if_pos hc] at h; cases h; exact .inl ⟨by decide, by decide, by decide⟩
  rw [if_neg hc] at h; clear hc
  by_cases hc : t = 13
  · rw [if_pos hc] at h; cases h; exact .inl ⟨by decide, by decide, by decide⟩
  rw [if_neg hc] at h; clear hc
  by_cases hc : t = 15
  · rw [if_pos hc] at h; cases h; exact .inl ⟨by decide, by decide, by decide⟩
  rw [if_neg hc] at h; clear hc
  by_cases hc : t = 16
  · rw [if_pos hc] at h; cases h; exact .inl ⟨by decide, by decide, by decide⟩
  rw [if_neg hc] at h; clear hc
  by_cases hc : t = 28
  · rw [if_pos hc] at h; cases h; exact .inl ⟨by decide, by decide, by decide⟩
  rw [if_neg hc] at h; clear hc
  by_cases hc : t = 33
  · rw [if_pos hc] at h; cases h; exact .inl ⟨by decide, by decide, by decide⟩
  rw [if_neg hc] at h; clear hc
  by_cases hc : t = 35
  · rw [if_pos hc] at h; cases h; exact .inl ⟨by decide, by decide, by decide⟩
  rw [if_neg hc] at h; clear hc
  by_cases hc : t = 43
  · rw [if_pos hc] at h; cases h; exact .inl ⟨by decide, by decide, by decide⟩
  rw [if_neg hc] at h; clear hc
  by_cases hc : t = 46
  · rw [if_pos hc] at h; cases h; exact .inl ⟨by decide, by decide, by decide⟩
  rw [if_neg hc] at h; clear hc
  by_cases hc : t = 47
  · rw [if_pos hc] at h; cases h; exact .inl ⟨by decide, by decide, by decide⟩
  rw [if_neg hc] at h; clear hc
  by_cases hc : t = 48
  · rw [if_pos hc] at h; cases h; exact .inl ⟨by decide, by decide, by decide⟩
  rw [if_neg hc] at h; clear hc
  by_cases hc : t = 50
  · rw [if_pos hc] at h; cases h; exact .inl ⟨by decide, by decide, by decide⟩
  rw [if_neg hc] at h; clear hc
  by_cases hc : t = 51
  · rw [if_pos hc] at h; cases h; exact .inl ⟨by decide, by decide, by decide⟩
  rw [if_neg hc] at h; clear hc
  by_cases hc : t = 257
  · rw [if_pos hc] at h; cases h; exact .inl ⟨by decide, by decide, by decide⟩
  rw [if_neg hc] at h; clear hc
  by_cases hc : isDT t = true
  · rw [if_pos hc] at h; cases h; exact .inr rfl
  rw [if_neg hc] at h; cases h
set_option maxRecDepth 100000 in
/-- (*strings.Builder).Len -/
theorem blen_any (B b : Nat) (x : ByteArray) (w : World) (h : Bd B b x w) :
    Calls Tryz.prog 35 #[.pointer (some ⟨b, 0, none⟩)] w fun e w' => e = .returned (.int .i64 (x.size : Int)) ∧ w' = w := by
  have hx : (Lib.byteCells x.data.toList).length = x.size := by rw [Lib.byteCells_length, Array.length_toList]; rfl
  have key : ∃ (q : Option Addr) (c : Nat), w.cell? ⟨b, 1, none⟩ = some (.slice q x.size c) := by
    have k2 : ∀ p, Lib.BuilderAtF 71 5 B b p (Lib.byteCells x.data.toList) w → ∃ (q : Option Addr) (c : Nat), w.cell? ⟨b, 1, none⟩ = some (.slice q x.size c) := fun p hp => by
      obtain ⟨hB, v, hg, ⟨hl, ho⟩, hne⟩ := hp
      rw [hx] at ho
      have c1 : w.cell? ⟨b, 1, none⟩ = some v := by rw [Lib.cell_of_heap hg]; rfl
      rcases ho with ⟨rfl, h0⟩ | ⟨g, cap, cur, fz, rfl, _⟩
      · exact ⟨none, 0, by rw [c1, h0]⟩
      · exact ⟨_, cap, c1⟩
    rcases h.1 with h | h
    · exact k2 _ h
    · exact k2 _ h
  obtain ⟨q, c, hc⟩ := key
  go_enter Tryz.func35, Tryz.ntmps35
  go_wp2
  go_ret
  exact ⟨rfl, rfl⟩
set_option maxRecDepth 100000 in
set_option maxHeartbeats 4000000 in
/-- data.readFields, over the words that tell data -/
theorem readFields_any (W0 : World) (L : Nat) (q : Option Addr) (c : Nat) (o : ByteArray) (ps : List (Kind × ByteArray)) (d : ByteArray) (ks : List Kind) (g : Nat) (w : World) (h : Ln W0 L q c (tellA ps) o 0 w) (hok : PsOk ps d) (hks : ps.map (·.1) = ks) (hkn : ∀ k ∈ ks, kKn k = true) (hlast : lastK ks = true)
    (hg : w.heap[g]? = some (.cells (ks.map kindV).toArray 41 (0, 0))) (hgL : g ≠ L) (ho : isN o = true) (hG : GD W0) :
    Calls Tryz.prog 22 #[.slice (some ⟨g, 0, none⟩) ks.length ks.length, .pointer (some ⟨L, 0, none⟩)] w fun e w' => e = .returned (.string d) ∧ Rg w w' L := by
  have hlen : ks.length = ps.length := by rw [← hks, List.length_map]
  have hn9 := hok.few
  have hdl := hok.dl
  have hZl := h.len
  have HNn : Hid (∀ i (hi : i < ps.length), (tellA (ps.take (i + 1))).length = (tellA (ps.take i)).length + (tellK ps[i].1 ps[i].2).length ∧ catB (ps.take (i + 1)) = catB (ps.take i) ++ ps[i].2) := fun i hi => by
    rw [tellA_step hi, List.length_append]
    refine ⟨rfl, ?_⟩
    rw [List.take_add_one, List.getElem?_eq_getElem hi, Option.toList_some, catB_app, catB_one]
  have HLe : Hid (∀ i, (tellA (ps.take i)).length ≤ (tellA ps).length) := fun i => by
    have e : tellA ps = tellA (ps.take i) ++ tellA (ps.drop i) := by
      conv => lhs; rw [← List.take_append_drop i ps]
      unfold tellA
      rw [List.flatMap_append]
    rw [e, List.length_append]
    omega
  have HAll : Hid (tellA (ps.take ps.length) = tellA ps ∧ catB (ps.take ps.length) = d) := by
    unfold Hid
    rw [List.take_length]
    exact ⟨rfl, hok.cat⟩
  have HRd : Hid (∀ i (hi : i < ps.length) (V : World), Ln W0 L q c (tellA ps) o (tellA (ps.take i)).length V → Calls Tryz.prog (kRd ps[i].1) #[kR ps[i].1, .pointer (some ⟨L, 0, none⟩)] V (RdE W0 L q c (tellA ps) o ((tellA (ps.take i)).length + (tellK ps[i].1 ps[i].2).length) ps[i].2 V)) := fun i hi V hV => by
    have hiks : i < ks.length := by omega
    have hki : ks[i] = ps[i].1 := by simp only [← hks, List.getElem_map]
    have hsplit : tellA ps = tellA (ps.take i) ++ (tellK ps[i].1 ps[i].2 ++ tellA (ps.drop (i + 1))) := by
      conv => lhs; rw [← List.take_append_drop i ps, List.drop_eq_getElem_cons hi]
      unfold tellA
      rw [List.flatMap_append, List.flatMap_cons]
    refine readK_any W0 L q c (tellA ps) o (tellA (ps.take i)).length ps[i].1 ps[i].2 V hV (hkn _ (by rw [← hki]; exact List.getElem_mem hiks)) (hok.sz _ (List.getElem_mem hi)) (hok.le _ (List.getElem_mem hi)) ho hG (fun j hj => ?_) (fun he => ?_)
    · rw [hsplit, List.getElem?_append_right (by omega), Nat.add_sub_cancel_left, List.getElem?_append_left hj, List.getElem?_eq_getElem hj]
    · have hl := lastK_at hiks hlast (by rw [hki]; exact he)
      conv => rhs; rw [hsplit]
      rw [List.drop_eq_nil_of_le (by omega), show tellA [] = [] from rfl, List.append_nil, List.length_append]
  have HCell : Hid (∀ i (hi : i < ps.length), w.cell? ⟨g, i, none⟩ = some (.iface (kT ps[i].1) (kR ps[i].1))) := fun i hi => by
    have hiks : i < ks.length := by omega
    have hki : ks[i] = ps[i].1 := by simp only [← hks, List.getElem_map]
    rw [← kindV_eq, ← hki]
    simp [World.cell?, hg, hiks]
  have HSz : Hid (∀ i (hi : i < ps.length), (catB (ps.take i)).size + ps[i].2.size ≤ 1073741824) := fun i hi => by
    have e : d = catB (ps.take i) ++ catB (ps.drop i) := by rw [← catB_app, List.take_append_drop, hok.cat]
    have h1 := congrArg ByteArray.size e
    rw [ByteArray.size_append] at h1
    have h2 := hok.le _ (List.getElem_mem hi)
    omega
  have hglt : g < w.heap.size := (Array.getElem?_eq_some_iff.1 hg).1
  have HGne : Hid (g ≠ L) := hgL
  have HGlt := hide' hglt
  have HM : Hid (∀ V, Ln W0 L q c (tellA ps) o (tellA ps).length V → Calls Tryz.prog 33 #[.pointer (some ⟨L, 0, none⟩)] V fun e w' => e = .returned (.bool false) ∧ ∃ m, w' = V.drewN m) := fun V hV => by
    have := lmore_any W0 L q c (tellA ps) o (tellA ps).length V hV (Nat.le_refl _)
    rw [decide_eq_false (Nat.lt_irrefl _)] at this
    exact this
  have HB0 := hide' (Bd.new w)
  have HBa : Hid (Below w.heap.size w (w.alloc (.cells #[.pointer none, .slice none 0 0] 71))) := (Below.refl _ w).alloc (Nat.le_refl _) _
  have HLa := hide' (h.below HBa.out)
  have HLt : Hid (L < w.heap.size) := h.lt
  rw [hlen]
  have hdI : ¬ (65535 : Int) < (d.size : Int) := by omega
  clear hks hkn hlast hg hgL hglt hlen hZl h hok
  go_enter Tryz.func22, Tryz.ntmps22
  go_wp2_with fail
  go_loopw [10] (fun iv wr => ∃ i : Nat, iv = .int .i64 (i : Int) ∧ i ≤ ps.length ∧ Hid (Ln W0 L q c (tellA ps) o (tellA (ps.take i)).length wr) ∧ Hid (Bd w.heap.size w.heap.size (catB (ps.take i)) wr) ∧ Hid (Rg w wr L)) (fun iv _ => ps.length - (intOf iv).toNat)
  case atStart => exact ⟨0, rfl, Nat.zero_le _, HLa.out, HB0.out, Rg.of_below HBa.out L⟩
  case round =>
    clear HB0 HBa HLa
    obtain ⟨i, rfl, hi, HL, HB, HR⟩ := hrel
    by_cases hlt : i < ps.length
    · have hcell := (World.cell?_of_block (HR.out.block g HGlt.out (fun e => HGne.out (by injection e)))).trans (HCell.out i hlt)
      have HN1 := hide' (HNn.out i hlt)
      have HR1 := hide' (HRd.out i hlt)
      have HS1 := hide' (HSz.out i hlt)
      generalize ps[i].1 = k at *
      generalize ps[i].2 = b at *
      have pk : (i : Int) < (ps.length : Int) := by omega
      go_wp2_with fail
      rw [method_read]
      go_upon
      rw [enter_read, Oper.upon_enter]
      refine (HR1.out _ HL.out).mono ?_
      rintro e w3 ⟨rfl, hL3, hR3⟩
      have HL3 := hide' hL3
      have HB3 := hide' (HB.out.rg hR3 HLt.out)
      have HR3 := hide' (HR.out.trans hR3)
      clear hL3 hR3
      go_wp2_with (go_at_call 29; refine (bwrite_any _ _ _ _ _ HB3.out HS1.out).mono ?_; rintro e2 w4 ⟨rfl, hB4, hb4⟩; have HL4 := hide' (HL3.out.belowB hb4 HLt.out); have HR4 := hide' (HR3.out.belowB hb4 (Nat.le_refl _)); have HB4 := hide' hB4; clear hB4 hb4)
      exact ⟨⟨i + 1, by go_num, by omega, (by rw [HN1.out.1]; exact HL4), (by rw [HN1.out.2]; exact HB4), HR4⟩, by simp [intOf]; omega⟩
    · obtain rfl : i = ps.length := by omega
      have pk : ¬ (ps.length : Int) < (ps.length : Int) := by omega
      have HL' : Hid (Ln W0 L q c (tellA ps) o (tellA ps).length wr) := by have := HL.out; rw [HAll.out.1] at this; exact this
      have HB' : Hid (Bd w.heap.size w.heap.size d wr) := by have := HB.out; rw [HAll.out.2] at this; exact this
      clear HL HB
      go_wp2_with (first
        | (go_at_call 33; refine (HM.out _ HL'.out).mono ?_; rintro e0 w5 ⟨rfl, m, hw5⟩; have hw5' := hw5; subst hw5'; have HB5 := hide' (HB'.out.below (below_drewN (Below.refl _ wr) m)))
        | (go_at_call 35; refine (blen_any _ _ _ _ HB5.out).mono ?_; rintro e6 w6 ⟨rfl, hw6⟩; have hw6' := hw6.symm; subst hw6')
        | (go_at_call 30; refine (bstring_any _ _ _ _ HB5.out).mono ?_; rintro e7 w7 ⟨rfl, -, hb7⟩; have HR7 := hide' ((HR.out.trans (Rg.of_below (below_drewN (Below.refl _ _) m) L)).belowB hb7 (Nat.le_refl _)); clear hb7))
      go_ret
      exact ⟨rfl, HR7.out⟩
end Go.Proofs.YtfacfhigehdejaaGreatDoor
