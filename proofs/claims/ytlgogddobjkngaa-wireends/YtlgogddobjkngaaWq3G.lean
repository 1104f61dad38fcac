import Derived.Test.YtlgogddobjkngaaWq1G
import Derived.Test.YtlgogddobjkngaaPk15G
import Derived.Test.YtlgogddobjkngaaWu14G
import Derived.Test.YtlgogddobjkngaaPk11G
/-
  Plain facts: what Pack writes is read by Unpack as that message. (The verifier's own text.)
-/
namespace Go.Proofs.Ytlgogddobjkngaa
set_option linter.unusedVariables false
open Go.RowKit Go.Shelf Go.Maps Go.Proofs.Ytlgogddobjkngaa.Nm

theorem sg_of {v b : Nat} {x : Bool} (h : v / 2 ^ b % 2 = x.toNat) : sg v b = x := by
  unfold sg
  cases x
  · exact decide_eq_false (by simp at h; omega)
  · exact decide_eq_true (by simpa using h)
/-- the signs are read again -/
theorem sgS_read (i2 i9 : Nat) (b1 b3 b4 b5 b6 b7 b8 : Bool) (h2 : i2 < 16) (h9 : i9 < 16) :
    sg (sgS i2 i9 b1 b3 b4 b5 b6 b7 b8 7) 6 = false ∧ sg (sgS i2 i9 b1 b3 b4 b5 b6 b7 b8 7) 15 = b1 ∧ sg (sgS i2 i9 b1 b3 b4 b5 b6 b7 b8 7) 10 = b3 ∧ sg (sgS i2 i9 b1 b3 b4 b5 b6 b7 b8 7) 9 = b4 ∧ sg (sgS i2 i9 b1 b3 b4 b5 b6 b7 b8 7) 8 = b5 ∧ sg (sgS i2 i9 b1 b3 b4 b5 b6 b7 b8 7) 7 = b6 ∧ sg (sgS i2 i9 b1 b3 b4 b5 b6 b7 b8 7) 5 = b7 ∧ sg (sgS i2 i9 b1 b3 b4 b5 b6 b7 b8 7) 4 = b8 ∧ sgS i2 i9 b1 b3 b4 b5 b6 b7 b8 7 / 2048 % 16 = i2 ∧ sgS i2 i9 b1 b3 b4 b5 b6 b7 b8 7 % 16 = i9 := by
  have e1 := Bool.toNat_le b1
  have e3 := Bool.toNat_le b3
  have e4 := Bool.toNat_le b4
  have e5 := Bool.toNat_le b5
  have e6 := Bool.toNat_le b6
  have e7 := Bool.toNat_le b7
  have e8 := Bool.toNat_le b8
  have hv : sgS i2 i9 b1 b3 b4 b5 b6 b7 b8 7 = i2 * 2048 + i9 + b1.toNat * 32768 + b3.toNat * 1024 + b4.toNat * 512 + b5.toNat * 256 + b6.toNat * 128 + b7.toNat * 32 + b8.toNat * 16 := by simp [sgS]
  rw [hv]
  refine ⟨sg_of ?_, sg_of ?_, sg_of ?_, sg_of ?_, sg_of ?_, sg_of ?_, sg_of ?_, sg_of ?_, ?_, ?_⟩
  · simp only [Bool.toNat_false]; omega
  · omega
  · omega
  · omega
  · omega
  · omega
  · omega
  · omega
  · omega
  · omega
/-- what Pack writes is read as that message -/
theorem upk_pack (i0 i2 i9 : Nat) (b1 b3 b4 b5 b6 b7 b8 : Bool) (Q : List Qn) (A U D : List Rn) (hm : msgOK i0 i2 i9 Q A U D = true) (hz : (packS i0 i2 i9 b1 b3 b4 b5 b6 b7 b8 Q A U D).out.size ≤ 65535) :
    upk (packS i0 i2 i9 b1 b3 b4 b5 b6 b7 b8 Q A U D).out = .ok ⟨Q, A, U, D⟩ ∧ be (packS i0 i2 i9 b1 b3 b4 b5 b6 b7 b8 Q A U D).out 0 2 = i0 ∧ be (packS i0 i2 i9 b1 b3 b4 b5 b6 b7 b8 Q A U D).out 2 2 = sgS i2 i9 b1 b3 b4 b5 b6 b7 b8 7 := by
  obtain ⟨⟨n0, e0, k0⟩, ⟨n2, e2, k2⟩, ⟨n9, e9, k9⟩, lq, la, lu, ld, hlst⟩ := msgOK_parts hm
  have g0 : i0 < 65536 := by omega
  have g2 : i2 < 16 := by omega
  have g9 : i9 < 16 := by omega
  obtain ⟨oq, oa, ou, od⟩ := lstOK_parts hlst
  obtain ⟨H, hH⟩ : ∃ H, headP i0 i2 i9 b1 b3 b4 b5 b6 b7 b8 Q.length A.length U.length D.length ⟨.empty, []⟩ = H := ⟨_, rfl⟩
  obtain ⟨z1, z2⟩ := head_size i0 i2 i9 b1 b3 b4 b5 b6 b7 b8 Q.length A.length U.length D.length
  rw [hH] at z1 z2
  have hPH : POk H := ⟨fun x hx => by (rw [z2] at hx; cases hx), by rw [z2]; exact Nat.zero_le _⟩
  have hPQ := (quesL_ok Q H oq hPH).1
  have oall : ∀ r ∈ A ++ U ++ D, rOK r = true := fun r hr => by
    rcases List.mem_append.1 hr with h | h
    · rcases List.mem_append.1 h with h | h
      · exact oa r h
      · exact ou r h
    · exact od r h
  have hpk : packS i0 i2 i9 b1 b3 b4 b5 b6 b7 b8 Q A U D = recL (A ++ U ++ D) (quesL Q H) := by
    unfold packS at hz ⊢
    rw [hH] at hz ⊢
    exact runR_all _ _ _ oall hPQ hz
  rw [hpk] at hz ⊢
  obtain ⟨B, hB⟩ : ∃ B, (recL (A ++ U ++ D) (quesL Q H)).out = B := ⟨_, rfl⟩
  rw [hB] at hz ⊢
  have hPA := (recL_pf A (quesL Q H) oa hPQ).2
  have hPU := (recL_pf U (recL A (quesL Q H)) ou hPA).2
  have q3 : Pf (recL D (recL U (recL A (quesL Q H)))).out B := by rw [← hB, recL_app, recL_app]; exact Pf.refl _
  have q2 : Pf (recL U (recL A (quesL Q H))).out B := (recL_pf D _ od hPU).1.trans q3
  have q1 : Pf (recL A (quesL Q H)).out B := (recL_pf U _ ou hPA).1.trans q2
  have q0 : Pf (quesL Q H).out B := (recL_pf A _ oa hPQ).1.trans q1
  have qh : Pf H.out B := (quesL_pf Q H).trans q0
  have ph : Pf ((((((ByteArray.empty ++ numB i0 2) ++ numB (sgS i2 i9 b1 b3 b4 b5 b6 b7 b8 7) 2) ++ numB Q.length 2) ++ numB A.length 2) ++ numB U.length 2) ++ numB D.length 2) B := by rw [← hH] at qh; exact qh
  have f5 := be2 ph (by omega)
  have f4 := be2 ph.left (by omega)
  have f3 := be2 ph.left.left (by omega)
  have f2 := be2 ph.left.left.left (by omega)
  have f1 := be2 ph.left.left.left.left (sgS_lt i2 i9 b1 b3 b4 b5 b6 b7 b8 g2 g9)
  have f0 := be2 ph.left.left.left.left.left g0
  simp only [ByteArray.size_append, numB_size] at f0 f1 f2 f3 f4 f5
  have f0' : be B 0 2 = i0 := f0
  have f1' : be B 2 2 = sgS i2 i9 b1 b3 b4 b5 b6 b7 b8 7 := f1
  have f2' : be B 4 2 = Q.length := f2
  have f3' : be B 6 2 = A.length := f3
  have f4' : be B 8 2 = U.length := f4
  have f5' : be B 10 2 = D.length := f5
  have hTH : Tg B H := ⟨hPH.1, fun n q hm => by rw [z2] at hm; cases hm⟩
  obtain ⟨r0, t0⟩ := qsR B Q H [] oq hTH q0
  obtain ⟨r1, t1⟩ := rsR B A (quesL Q H) [] oa hPQ t0 q1
  obtain ⟨r2, t2⟩ := rsR B U (recL A (quesL Q H)) [] ou hPA t1 q2
  obtain ⟨r3, t3⟩ := rsR B D (recL U (recL A (quesL Q H))) [] od hPU t2 q3
  have hend : (recL D (recL U (recL A (quesL Q H)))).out.size = B.size := by rw [← hB, recL_app, recL_app]
  refine ⟨?_, f0', f1'⟩
  have hsz := qh.size
  unfold upk
  rw [if_neg (by omega), if_neg (by omega), f1', (sgS_read i2 i9 b1 b3 b4 b5 b6 b7 b8 g2 g9).1, if_neg (by decide)]
  unfold parts4
  rw [f2', f3', f4', f5']
  rw [z1] at r0
  rw [r0]
  simp only
  rw [r1]
  simp only
  rw [r2]
  simp only
  rw [r3]
  simp only
  rw [if_neg (by omega)]
  rfl
end Go.Proofs.Ytlgogddobjkngaa

/-
  Plain facts: bytes of a message that are cut end too early; bytes behind a message are told; what is read is a message. (The verifier's own text.)
-/
namespace Go.Proofs.Ytlgogddobjkngaa
set_option linter.unusedVariables false
open Go.RowKit Go.Shelf Go.Maps Go.Proofs.Ytlgogddobjkngaa.Nm

theorem cut_size {B : ByteArray} {c : Nat} (hc : c ≤ B.size) : (B.extract 0 c).size = c := by simp [ByteArray.size_extract]; omega
theorem cut_bt {B : ByteArray} {c i : Nat} (hc : c ≤ B.size) (hi : i < c) : bt (B.extract 0 c) i = bt B i := by
  have := bt_ext (B := B) (k := 0) (e := c) (i := i) (by omega) hc
  rwa [Nat.zero_add] at this
theorem cut_be {B : ByteArray} {c i n : Nat} (hc : c ≤ B.size) (hi : i + n ≤ c) : be (B.extract 0 c) i n = be B i n := by
  have := be_ext (B := B) (k := 0) (e := c) (i := i) hc n (by omega)
  rwa [Nat.zero_add] at this
theorem cut_ext {B : ByteArray} {c i j : Nat} (hc : c ≤ B.size) (hj : j ≤ c) : (B.extract 0 c).extract i j = B.extract i j := by
  apply ByteArray.ext
  apply Array.ext
  · simp; omega
  · intro k h1 h2; simp
/-- a name, of bytes that are cut -/
theorem rn_cut {B : ByteArray} {c : Nat} (hc : c ≤ B.size) (k st en ov had : Nat) (s : ByteArray) (nx en' ov' : Nat) (h : rn B k st en ov had = .ok (s, nx)) (h1 : en' ≤ en) (h2 : en' ≤ c) (h3 : en' = en ∨ ov' = 10) :
    (rn (B.extract 0 c) k st en' ov' had = .ok (s, nx) ∧ nx ≤ en') ∨ rn (B.extract 0 c) k st en' ov' had = .error 10 := by
  by_cases hk : k < en'
  · have hb : bt (B.extract 0 c) k = bt B k := cut_bt hc (by omega)
    have hke : k < en := by omega
    by_cases h0 : bt B k = 0
    · rw [rn_zero hke h0] at h
      simp at h
      obtain ⟨rfl, rfl⟩ := h
      rw [rn_zero hk (by rw [hb]; exact h0)]
      exact .inl ⟨rfl, by omega⟩
    · by_cases h6 : bt B k < 64
      · by_cases ho : en < k + 1 + bt B k
        · rw [rn_over hke h0 h6 ho] at h; cases h
        · by_cases hl : 255 < had + 1 + bt B k + 1
          · rw [rn_long hke h0 h6 ho hl] at h; cases h
          · rw [rn_label hke h0 h6 ho hl] at h
            by_cases ho' : en' < k + 1 + bt B k
            · right
              rw [rn_over hk (by rw [hb]; exact h0) (by rw [hb]; exact h6) (by rw [hb]; exact ho')]
              rcases h3 with e | e
              · omega
              · rw [e]
            · rw [rn_label hk (by rw [hb]; exact h0) (by rw [hb]; exact h6) (by rw [hb]; exact ho') (by rw [hb]; exact hl), hb]
              unfold pre at h ⊢
              split at h
              · rename_i r hr
                simp at h
                obtain ⟨rfl, rfl⟩ := h
                rcases rn_cut hc (k + 1 + bt B k) st en ov (had + 1 + bt B k) r.1 r.2 en' ov' hr h1 h2 h3 with ⟨g1, g2⟩ | g
                · rw [g1]
                  simp only
                  rw [cut_ext hc (by omega)]
                  exact .inl ⟨rfl, g2⟩
                · rw [g]; exact .inr rfl
              · cases h
      · by_cases h9 : bt B k < 192
        · rw [rn_mid hke h6 h9] at h; cases h
        · by_cases ho : en < k + 2
          · rw [rn_short hke h9 ho] at h; cases h
          · by_cases hp : (bt B k - 192) * 256 + bt B (k + 1) < st
            · rw [rn_ptr hke h9 ho hp] at h
              by_cases ho' : en' < k + 2
              · right
                rw [rn_short hk (by rw [hb]; exact h9) ho']
                rcases h3 with e | e
                · omega
                · rw [e]
              · have hb1 : bt (B.extract 0 c) (k + 1) = bt B (k + 1) := cut_bt hc (by omega)
                rw [rn_ptr hk (by rw [hb]; exact h9) ho' (by rw [hb, hb1]; exact hp), hb, hb1, cut_size hc]
                unfold bhd at h ⊢
                split at h
                · rename_i r hr
                  simp at h
                  obtain ⟨rfl, rfl⟩ := h
                  rcases rn_cut hc ((bt B k - 192) * 256 + bt B (k + 1)) ((bt B k - 192) * 256 + bt B (k + 1)) B.size 10 had r.1 r.2 c 10 hr hc (Nat.le_refl _) (.inr rfl) with ⟨g1, g2⟩ | g
                  · rw [g1]; exact .inl ⟨rfl, by omega⟩
                  · rw [g]; exact .inr rfl
                · cases h
            · rw [rn_far hke h9 ho hp] at h; cases h
  · right
    rw [rn_end hk]
    rcases h3 with e | e
    · subst e
      rw [rn_end hk] at h; cases h
    · rw [e]
theorem qr_cut {B : ByteArray} {c : Nat} (hc : c ≤ B.size) {k : Nat} {q : Qn} {k1 : Nat} (h : qr B k = .ok (q, k1)) :
    (qr (B.extract 0 c) k = .ok (q, k1) ∧ k1 ≤ c) ∨ qr (B.extract 0 c) k = .error 10 := by
  unfold qr at h ⊢
  rw [cut_size hc]
  split at h
  · cases h
  · rename_i r hr
    obtain ⟨s, k2⟩ := r
    simp only at h
    split at h
    · cases h
    · simp at h
      obtain ⟨rfl, rfl⟩ := h
      rcases rn_cut hc k k B.size 10 0 s k2 c 10 hr hc (Nat.le_refl _) (.inr rfl) with ⟨g1, g2⟩ | g
      · rw [g1]
        simp only
        by_cases hz : c < k2 + 4
        · rw [if_pos hz]; exact .inr rfl
        · rw [if_neg hz, cut_be hc (by omega), cut_be hc (by omega)]
          exact .inl ⟨rfl, by omega⟩
      · rw [g]; exact .inr rfl
theorem nmR_cut {B : ByteArray} {c en : Nat} (hc : c ≤ B.size) (he : en ≤ c) : ∀ (m k : Nat) (acc d : ByteArray), nmR B en m k acc = .ok d → nmR (B.extract 0 c) en m k acc = .ok d ∨ nmR (B.extract 0 c) en m k acc = .error 10
  | 0, k, acc, d, h => by
    left
    have h' : Except.ok (acc ++ B.extract k en) = (Except.ok d : Except Nat ByteArray) := h
    show Except.ok (acc ++ (B.extract 0 c).extract k en) = _
    rw [cut_ext hc he]; exact h'
  | m + 1, k, acc, d, h => by
    unfold nmR at h ⊢
    split at h
    · cases h
    · rename_i r hr
      rcases rn_cut hc k k en 7 0 r.1 r.2 en 7 hr (Nat.le_refl _) he (.inl rfl) with ⟨g1, g2⟩ | g
      · rw [g1]; exact nmR_cut hc he m r.2 _ d h
      · rw [g]; exact .inr rfl
theorem dr_cut {B : ByteArray} {c en : Nat} (hc : c ≤ B.size) (he : en ≤ c) {k : Nat} {t : Int} {d : ByteArray} (h : dr B k en t = .ok d) : dr (B.extract 0 c) k en t = .ok d ∨ dr (B.extract 0 c) k en t = .error 10 := by
  unfold dr at h ⊢
  by_cases h0 : k = en
  · rw [if_pos h0] at h ⊢; exact .inl h
  · rw [if_neg h0] at h ⊢
    by_cases h1 : en < k + (shp t).1
    · rw [if_pos h1] at h; cases h
    · rw [if_neg h1] at h ⊢
      rw [cut_ext hc (by omega)]
      exact nmR_cut hc he _ _ _ _ h
theorem sound_ok {t c : Int} {x : Except Nat ByteArray} {d : ByteArray} (h : sound t c x = .ok d) : x = .ok d ∧ dataOK t c d = true := by
  unfold sound at h
  cases x with
  | error e => cases h
  | ok d' =>
    simp only at h
    split at h
    · injection h with h; subst h; exact ⟨rfl, by assumption⟩
    · cases h
theorem rr_parts {B : ByteArray} {k : Nat} {r : Rn} {k1 : Nat} (h : rr B k = .ok (r, k1)) : ∃ q k2, qr B k = .ok (q, k2) ∧ k2 + 6 + be B (k2 + 4) 2 ≤ B.size ∧ dr B (k2 + 6) (k2 + 6 + be B (k2 + 4) 2) q.t = .ok r.d ∧ dataOK q.t q.c r.d = true ∧ r = ⟨q.n, q.t, q.c, (be B k2 4 : Nat), r.d⟩ ∧ k1 = k2 + 6 + be B (k2 + 4) 2 := by
  unfold rr at h
  split at h
  · cases h
  · rename_i x hx
    obtain ⟨q, k2⟩ := x
    simp only at h
    split at h
    · cases h
    · split at h
      · cases h
      · split at h
        · cases h
        · rename_i d hd
          obtain ⟨g1, g2⟩ := sound_ok hd
          simp at h
          obtain ⟨rfl, rfl⟩ := h
          exact ⟨q, k2, hx, by omega, g1, g2, rfl, rfl⟩
theorem rr_mk {B : ByteArray} {k k2 : Nat} {q : Qn} {d : ByteArray} (h1 : qr B k = .ok (q, k2)) (h2 : k2 + 6 + be B (k2 + 4) 2 ≤ B.size) (h3 : dr B (k2 + 6) (k2 + 6 + be B (k2 + 4) 2) q.t = .ok d) (h4 : dataOK q.t q.c d = true) : rr B k = .ok (⟨q.n, q.t, q.c, (be B k2 4 : Nat), d⟩, k2 + 6 + be B (k2 + 4) 2) := by
  unfold rr
  rw [h1]
  simp only
  rw [if_neg (by omega), if_neg (by omega), h3]
  unfold sound
  simp only
  rw [if_pos h4]
theorem rr_cut {B : ByteArray} {c : Nat} (hc : c ≤ B.size) {k : Nat} {r : Rn} {k1 : Nat} (h : rr B k = .ok (r, k1)) :
    (rr (B.extract 0 c) k = .ok (r, k1) ∧ k1 ≤ c) ∨ rr (B.extract 0 c) k = .error 10 := by
  obtain ⟨q, k2, h1, h2, h3, h4, h5, rfl⟩ := rr_parts h
  rcases qr_cut hc h1 with ⟨g1, g2⟩ | g
  · by_cases z1 : c < k2 + 6
    · right
      unfold rr
      rw [g1]
      simp only
      rw [cut_size hc, if_pos z1]
    · have e2 : be (B.extract 0 c) (k2 + 4) 2 = be B (k2 + 4) 2 := cut_be hc (by omega)
      by_cases z2 : c < k2 + 6 + be B (k2 + 4) 2
      · right
        unfold rr
        rw [g1]
        simp only
        rw [cut_size hc, if_neg z1, e2, if_pos z2]
      · rcases dr_cut hc (by omega) h3 with g3 | g3
        · left
          have := rr_mk (B := B.extract 0 c) g1 (by rw [e2, cut_size hc]; omega) (by rw [e2]; exact g3) h4
          rw [e2, cut_be hc (by omega), ← h5] at this
          exact ⟨this, by omega⟩
        · right
          unfold rr
          rw [g1]
          simp only
          rw [cut_size hc, if_neg z1, e2, if_neg z2, g3]
          rfl
  · right
    unfold rr
    rw [g]
theorem qs_cut {B : ByteArray} {c : Nat} (hc : c ≤ B.size) : ∀ (n k : Nat) (L L' : List Qn) (k1 : Nat), k ≤ c → qs B n k L = .ok (L', k1) → (qs (B.extract 0 c) n k L = .ok (L', k1) ∧ k1 ≤ c) ∨ ∃ p, qs (B.extract 0 c) n k L = .error (10, p)
  | 0, k, L, L', k1, hk, h => by
    have h' : (Except.ok (L, k) : Except (Nat × Nat) (List Qn × Nat)) = .ok (L', k1) := h
    simp at h'
    obtain ⟨rfl, rfl⟩ := h'
    exact .inl ⟨rfl, hk⟩
  | n + 1, k, L, L', k1, hk, h => by
    unfold qs at h ⊢
    split at h
    · cases h
    · rename_i r hr
      rcases qr_cut hc (q := r.1) (k1 := r.2) hr with ⟨g1, g2⟩ | g
      · rw [g1]; exact qs_cut hc n r.2 _ L' k1 g2 h
      · rw [g]; exact .inr ⟨k, rfl⟩
theorem rs_cut {B : ByteArray} {c : Nat} (hc : c ≤ B.size) : ∀ (n k : Nat) (L L' : List Rn) (k1 : Nat), k ≤ c → rs B n k L = .ok (L', k1) → (rs (B.extract 0 c) n k L = .ok (L', k1) ∧ k1 ≤ c) ∨ ∃ p, rs (B.extract 0 c) n k L = .error (10, p)
  | 0, k, L, L', k1, hk, h => by
    have h' : (Except.ok (L, k) : Except (Nat × Nat) (List Rn × Nat)) = .ok (L', k1) := h
    simp at h'
    obtain ⟨rfl, rfl⟩ := h'
    exact .inl ⟨rfl, hk⟩
  | n + 1, k, L, L', k1, hk, h => by
    unfold rs at h ⊢
    split at h
    · cases h
    · rename_i r hr
      rcases rr_cut hc (r := r.1) (k1 := r.2) hr with ⟨g1, g2⟩ | g
      · rw [g1]; exact rs_cut hc n r.2 _ L' k1 g2 h
      · rw [g]; exact .inr ⟨k, rfl⟩
theorem parts4_ok {B : ByteArray} {ls : Ls} (h : parts4 B = .ok ls) : ∃ k0 k1 k2 k3, qs B (be B 4 2) 12 [] = .ok (ls.q, k0) ∧ rs B (be B 6 2) k0 [] = .ok (ls.a, k1) ∧ rs B (be B 8 2) k1 [] = .ok (ls.u, k2) ∧ rs B (be B 10 2) k2 [] = .ok (ls.d, k3) ∧ ¬ k3 < B.size := by
  unfold parts4 at h
  split at h
  · cases h
  · rename_i q hq
    split at h
    · cases h
    · rename_i a ha
      split at h
      · cases h
      · rename_i u hu
        split at h
        · cases h
        · rename_i d hd
          split at h
          · cases h
          · injection h with h
            subst h
            exact ⟨q.2, a.2, u.2, d.2, hq, ha, hu, hd, by assumption⟩
theorem upk_ok {B : ByteArray} {ls : Ls} (h : upk B = .ok ls) : B.size ≤ 65535 ∧ 12 ≤ B.size ∧ sg (be B 2 2) 6 = false ∧ parts4 B = .ok ls := by
  unfold upk at h
  split at h
  · cases h
  · split at h
    · cases h
    · split at h
      · cases h
      · rename_i h1 h2 h3
        exact ⟨by omega, by omega, by simpa using h3, h⟩
/-- a message that is cut anywhere ends too early -/
theorem upk_cut {B : ByteArray} {ls : Ls} {c : Nat} (h : upk B = .ok ls) (hc : c < B.size) : ∃ p, upk (B.extract 0 c) = .error (10, p) := by
  obtain ⟨h1, h2, h3, h4⟩ := upk_ok h
  have hcl : c ≤ B.size := by omega
  unfold upk
  rw [cut_size hcl, if_neg (by omega)]
  by_cases h12 : c < 12
  · rw [if_pos h12]; exact ⟨_, rfl⟩
  · rw [if_neg h12, cut_be hcl (by omega), h3, if_neg (by decide)]
    obtain ⟨k0, k1, k2, k3, g0, g1, g2, g3, g4⟩ := parts4_ok h4
    unfold parts4
    rw [cut_be hcl (by omega), cut_be hcl (by omega), cut_be hcl (by omega), cut_be hcl (by omega)]
    rcases qs_cut hcl _ _ _ _ _ (by omega) g0 with ⟨e0, l0⟩ | ⟨p, e⟩
    · rw [e0]
      simp only
      rcases rs_cut hcl _ _ _ _ _ l0 g1 with ⟨e1, l1⟩ | ⟨p, e⟩
      · rw [e1]
        simp only
        rcases rs_cut hcl _ _ _ _ _ l1 g2 with ⟨e2, l2⟩ | ⟨p, e⟩
        · rw [e2]
          simp only
          rcases rs_cut hcl _ _ _ _ _ l2 g3 with ⟨e3, l3⟩ | ⟨p, e⟩
          · omega
          · rw [e]; exact ⟨p, rfl⟩
        · rw [e]; exact ⟨p, rfl⟩
      · rw [e]; exact ⟨p, rfl⟩
    · rw [e]; exact ⟨p, rfl⟩
/-- a name, of bytes with something behind them -/
theorem rn_ext {B : ByteArray} (x : ByteArray) (k st en ov had : Nat) (s : ByteArray) (nx en' ov' : Nat) (h : rn B k st en ov had = .ok (s, nx)) (h1 : en ≤ B.size) (h2 : en ≤ en') :
    rn (B ++ x) k st en' ov' had = .ok (s, nx) := by
  have hz : (B ++ x).size = B.size + x.size := ByteArray.size_append
  by_cases hke : k < en
  · have hk : k < en' := by omega
    have hb : bt (B ++ x) k = bt B k := bt_append_left _ _ _ (by omega)
    by_cases h0 : bt B k = 0
    · rw [rn_zero hke h0] at h
      rw [rn_zero hk (by rw [hb]; exact h0)]
      exact h
    · by_cases h6 : bt B k < 64
      · by_cases ho : en < k + 1 + bt B k
        · rw [rn_over hke h0 h6 ho] at h; cases h
        · by_cases hl : 255 < had + 1 + bt B k + 1
          · rw [rn_long hke h0 h6 ho hl] at h; cases h
          · rw [rn_label hke h0 h6 ho hl] at h
            rw [rn_label hk (by rw [hb]; exact h0) (by rw [hb]; exact h6) (by rw [hb]; omega) (by rw [hb]; exact hl), hb]
            unfold pre at h ⊢
            split at h
            · rename_i r hr
              simp at h
              obtain ⟨rfl, rfl⟩ := h
              rw [rn_ext x (k + 1 + bt B k) st en ov (had + 1 + bt B k) r.1 r.2 en' ov' hr h1 h2]
              simp only
              have : (B ++ x).extract k (k + 1 + bt B k) = B.extract k (k + 1 + bt B k) := by
                have := cut_ext (B := B ++ x) (c := B.size) (i := k) (j := k + 1 + bt B k) (by omega) (by omega)
                rw [← this, ex_app_l]
              rw [this]
            · cases h
      · by_cases h9 : bt B k < 192
        · rw [rn_mid hke h6 h9] at h; cases h
        · by_cases ho : en < k + 2
          · rw [rn_short hke h9 ho] at h; cases h
          · by_cases hp : (bt B k - 192) * 256 + bt B (k + 1) < st
            · rw [rn_ptr hke h9 ho hp] at h
              have hb1 : bt (B ++ x) (k + 1) = bt B (k + 1) := bt_append_left _ _ _ (by omega)
              rw [rn_ptr hk (by rw [hb]; exact h9) (by omega) (by rw [hb, hb1]; exact hp), hb, hb1]
              unfold bhd at h ⊢
              split at h
              · rename_i r hr
                simp at h
                obtain ⟨rfl, rfl⟩ := h
                rw [rn_ext x ((bt B k - 192) * 256 + bt B (k + 1)) ((bt B k - 192) * 256 + bt B (k + 1)) B.size 10 had r.1 r.2 (B ++ x).size 10 hr (Nat.le_refl _) (by omega)]
              · cases h
            · rw [rn_far hke h9 ho hp] at h; cases h
  · rw [rn_end hke] at h; cases h
theorem app_be {B x : ByteArray} {i : Nat} : ∀ n, i + n ≤ B.size → be (B ++ x) i n = be B i n
  | 0, _ => rfl
  | n + 1, h => by rw [be, be, app_be n (by omega), bt_append_left _ _ _ (by omega)]
theorem app_ext {B x : ByteArray} {i j : Nat} (h : j ≤ B.size) : (B ++ x).extract i j = B.extract i j := by
  have hz : (B ++ x).size = B.size + x.size := ByteArray.size_append
  have := cut_ext (B := B ++ x) (c := B.size) (i := i) (j := j) (by omega) h
  rw [← this, ex_app_l]
theorem qr_ext {B : ByteArray} (x : ByteArray) {k : Nat} {q : Qn} {k1 : Nat} (h : qr B k = .ok (q, k1)) : qr (B ++ x) k = .ok (q, k1) ∧ k1 ≤ B.size := by
  have hz : (B ++ x).size = B.size + x.size := ByteArray.size_append
  unfold qr at h ⊢
  split at h
  · cases h
  · rename_i r hr
    obtain ⟨s, k2⟩ := r
    simp only at h
    split at h
    · cases h
    · simp at h
      obtain ⟨rfl, rfl⟩ := h
      rw [rn_ext x k k B.size 10 0 s k2 (B ++ x).size 10 hr (Nat.le_refl _) (by omega)]
      simp only
      rw [if_neg (by omega), app_be 2 (by omega), app_be 2 (by omega)]
      exact ⟨rfl, by omega⟩
theorem nmR_ext {B : ByteArray} {en : Nat} (x : ByteArray) (he : en ≤ B.size) : ∀ (m k : Nat) (acc d : ByteArray), nmR B en m k acc = .ok d → nmR (B ++ x) en m k acc = .ok d
  | 0, k, acc, d, h => by
    have h' : Except.ok (acc ++ B.extract k en) = (Except.ok d : Except Nat ByteArray) := h
    show Except.ok (acc ++ (B ++ x).extract k en) = _
    rw [app_ext he]; exact h'
  | m + 1, k, acc, d, h => by
    unfold nmR at h ⊢
    split at h
    · cases h
    · rename_i r hr
      rw [rn_ext x k k en 7 0 r.1 r.2 en 7 hr he (Nat.le_refl _)]
      exact nmR_ext x he m r.2 _ d h
theorem dr_ext {B : ByteArray} {en : Nat} (x : ByteArray) (he : en ≤ B.size) {k : Nat} {t : Int} {d : ByteArray} (h : dr B k en t = .ok d) : dr (B ++ x) k en t = .ok d := by
  unfold dr at h ⊢
  by_cases h0 : k = en
  · rw [if_pos h0] at h ⊢; exact h
  · rw [if_neg h0] at h ⊢
    by_cases h1 : en < k + (shp t).1
    · rw [if_pos h1] at h; cases h
    · rw [if_neg h1] at h ⊢
      rw [app_ext (by omega)]
      exact nmR_ext x he _ _ _ _ h
theorem rr_ext {B : ByteArray} (x : ByteArray) {k : Nat} {r : Rn} {k1 : Nat} (h : rr B k = .ok (r, k1)) : rr (B ++ x) k = .ok (r, k1) ∧ k1 ≤ B.size := by
  have hz : (B ++ x).size = B.size + x.size := ByteArray.size_append
  obtain ⟨q, k2, h1, h2, h3, h4, h5, rfl⟩ := rr_parts h
  have e2 : be (B ++ x) (k2 + 4) 2 = be B (k2 + 4) 2 := app_be 2 (by omega)
  have := rr_mk (B := B ++ x) (qr_ext x h1).1 (by rw [e2]; omega) (by rw [e2]; exact dr_ext x h2 h3) h4
  rw [e2, app_be 4 (by omega), ← h5] at this
  exact ⟨this, h2⟩
theorem qs_ext {B : ByteArray} (x : ByteArray) : ∀ (n k : Nat) (L L' : List Qn) (k1 : Nat), k ≤ B.size → qs B n k L = .ok (L', k1) → qs (B ++ x) n k L = .ok (L', k1) ∧ k1 ≤ B.size
  | 0, k, L, L', k1, hk, h => by
    have h' : (Except.ok (L, k) : Except (Nat × Nat) (List Qn × Nat)) = .ok (L', k1) := h
    simp at h'
    obtain ⟨rfl, rfl⟩ := h'
    exact ⟨rfl, hk⟩
  | n + 1, k, L, L', k1, hk, h => by
    unfold qs at h ⊢
    split at h
    · cases h
    · rename_i r hr
      obtain ⟨g1, g2⟩ := qr_ext x (q := r.1) (k1 := r.2) hr
      rw [g1]
      exact qs_ext x n r.2 _ L' k1 g2 h
theorem rs_ext {B : ByteArray} (x : ByteArray) : ∀ (n k : Nat) (L L' : List Rn) (k1 : Nat), k ≤ B.size → rs B n k L = .ok (L', k1) → rs (B ++ x) n k L = .ok (L', k1) ∧ k1 ≤ B.size
  | 0, k, L, L', k1, hk, h => by
    have h' : (Except.ok (L, k) : Except (Nat × Nat) (List Rn × Nat)) = .ok (L', k1) := h
    simp at h'
    obtain ⟨rfl, rfl⟩ := h'
    exact ⟨rfl, hk⟩
  | n + 1, k, L, L', k1, hk, h => by
    unfold rs at h ⊢
    split at h
    · cases h
    · rename_i r hr
      obtain ⟨g1, g2⟩ := rr_ext x (r := r.1) (k1 := r.2) hr
      rw [g1]
      exact rs_ext x n r.2 _ L' k1 g2 h
/-- what stands behind a message is told -/
theorem upk_ext {B x : ByteArray} {ls : Ls} (h : upk B = .ok ls) (hx : 0 < x.size) (hm : B.size + x.size ≤ 65535) : upk (B ++ x) = .error (11, B.size) := by
  obtain ⟨h1, h2, h3, h4⟩ := upk_ok h
  have hz : (B ++ x).size = B.size + x.size := ByteArray.size_append
  obtain ⟨k0, k1, k2, k3, g0, g1, g2, g3, g4⟩ := parts4_ok h4
  obtain ⟨e0, l0⟩ := qs_ext x _ _ _ _ _ h2 g0
  obtain ⟨e1, l1⟩ := rs_ext x _ _ _ _ _ l0 g1
  obtain ⟨e2, l2⟩ := rs_ext x _ _ _ _ _ l1 g2
  obtain ⟨e3, l3⟩ := rs_ext x _ _ _ _ _ l2 g3
  have hk : k3 = B.size := by omega
  subst hk
  unfold upk
  rw [if_neg (by omega), if_neg (by omega), app_be 2 (by omega), h3, if_neg (by decide)]
  unfold parts4
  rw [app_be 2 (by omega), app_be 2 (by omega), app_be 2 (by omega), app_be 2 (by omega), e0]
  simp only
  rw [e1]
  simp only
  rw [e2]
  simp only
  rw [e3]
  simp only
  rw [if_pos (by omega)]
theorem fitsN_of {m b : Nat} (h : m < 2 ^ b) : fitsN (m : Int) b = true := by
  unfold fitsN
  exact decide_eq_true ⟨Int.natCast_nonneg _, by exact_mod_cast h⟩
theorem qr_good {B : ByteArray} {k : Nat} {q : Qn} {k1 : Nat} (h : qr B k = .ok (q, k1)) : qOK q = true := by
  obtain ⟨h1, _, _, _, ⟨m, hm, hml⟩, ⟨n, hn, hnl⟩⟩ := qr_ok h
  unfold qOK headOK
  rw [h1, hm, hn, fitsN_of (b := 16) hml, fitsN_of (b := 16) hnl]; rfl
theorem rr_good {B : ByteArray} {k : Nat} {r : Rn} {k1 : Nat} (h : rr B k = .ok (r, k1)) : rOK r = true := by
  obtain ⟨q, k2, h1, h2, h3, h4, h5, rfl⟩ := rr_parts h
  have := qr_good h1
  unfold qOK at this
  rw [h5]
  unfold rOK recOK
  simp only
  rw [this, fitsN_of (b := 32) (be4_lt B k2)]
  exact h4
theorem qs_good {B : ByteArray} : ∀ (n k : Nat) (L L' : List Qn) (k1 : Nat), qs B n k L = .ok (L', k1) → (∀ q ∈ L, qOK q = true) → (∀ q ∈ L', qOK q = true) ∧ L'.length = L.length + n
  | 0, k, L, L', k1, h, hL => by
    have h' : (Except.ok (L, k) : Except (Nat × Nat) (List Qn × Nat)) = .ok (L', k1) := h
    simp at h'
    obtain ⟨rfl, rfl⟩ := h'
    exact ⟨hL, rfl⟩
  | n + 1, k, L, L', k1, h, hL => by
    unfold qs at h
    split at h
    · cases h
    · rename_i r hr
      obtain ⟨g1, g2⟩ := qs_good n r.2 _ L' k1 h (fun q hq => by
        rcases List.mem_append.1 hq with h | h
        · exact hL q h
        · rw [List.mem_singleton.1 h]; exact qr_good (q := r.1) (k1 := r.2) hr)
      refine ⟨g1, ?_⟩
      rw [g2]; simp; omega
theorem rs_good {B : ByteArray} : ∀ (n k : Nat) (L L' : List Rn) (k1 : Nat), rs B n k L = .ok (L', k1) → (∀ q ∈ L, rOK q = true) → (∀ q ∈ L', rOK q = true) ∧ L'.length = L.length + n
  | 0, k, L, L', k1, h, hL => by
    have h' : (Except.ok (L, k) : Except (Nat × Nat) (List Rn × Nat)) = .ok (L', k1) := h
    simp at h'
    obtain ⟨rfl, rfl⟩ := h'
    exact ⟨hL, rfl⟩
  | n + 1, k, L, L', k1, h, hL => by
    unfold rs at h
    split at h
    · cases h
    · rename_i r hr
      obtain ⟨g1, g2⟩ := rs_good n r.2 _ L' k1 h (fun q hq => by
        rcases List.mem_append.1 hq with h | h
        · exact hL q h
        · rw [List.mem_singleton.1 h]; exact rr_good (r := r.1) (k1 := r.2) hr)
      refine ⟨g1, ?_⟩
      rw [g2]; simp; omega
/-- what is read is a message -/
theorem upk_msg {B : ByteArray} {ls : Ls} (h : upk B = .ok ls) : msgOK (be B 0 2 : Nat) (be B 2 2 / 2048 % 16 : Nat) (be B 2 2 % 16 : Nat) ls.q ls.a ls.u ls.d = true := by
  obtain ⟨h1, h2, h3, h4⟩ := upk_ok h
  obtain ⟨k0, k1, k2, k3, g0, g1, g2, g3, g4⟩ := parts4_ok h4
  obtain ⟨a0, b0⟩ := qs_good _ _ _ _ _ g0 (fun q hq => by cases hq)
  obtain ⟨a1, b1⟩ := rs_good _ _ _ _ _ g1 (fun q hq => by cases hq)
  obtain ⟨a2, b2⟩ := rs_good _ _ _ _ _ g2 (fun q hq => by cases hq)
  obtain ⟨a3, b3⟩ := rs_good _ _ _ _ _ g3 (fun q hq => by cases hq)
  have z0 := be2_lt B 4
  have z1 := be2_lt B 6
  have z2 := be2_lt B 8
  have z3 := be2_lt B 10
  simp only [List.length_nil, Nat.zero_add] at b0 b1 b2 b3
  unfold msgOK lstOK
  rw [fitsN_of (b := 16) (be2_lt B 0), fitsN_of (b := 4) (show be B 2 2 / 2048 % 16 < 2 ^ 4 by omega), fitsN_of (b := 4) (show be B 2 2 % 16 < 2 ^ 4 by omega), List.all_eq_true.2 a0, List.all_eq_true.2 a1, List.all_eq_true.2 a2, List.all_eq_true.2 a3, decide_eq_true (show ls.q.length ≤ 65535 by omega), decide_eq_true (show ls.a.length ≤ 65535 by omega), decide_eq_true (show ls.u.length ≤ 65535 by omega), decide_eq_true (show ls.d.length ≤ 65535 by omega)]
  rfl
end Go.Proofs.Ytlgogddobjkngaa
