import Derived.Test.YtfacfhigehdejaaGreatDoorWs1G
import Derived.Test.YtfacfhigehdejaaGreatDoorGr0G
import Derived.Test.YtfacfhigehdejaaGreatDoorShw
import Derived.Test.YtfacfhigehdejaaGreatDoorDbwG
/-
  Proofs: the law's split of a row of words that are told. (The verifier's own text.)
-/
namespace Go.Proofs.YtfacfhigehdejaaGreatDoor
set_option linter.unusedVariables false
set_option linter.unusedSimpArgs false
open Go.RowKit Go.Shelf Go.Proofs.YtfacfhigehdejaaGreatDoor.Nm

/-- a word's cells -/
def wzV (z : Wz) : List Value := [.string (bts z.t), .bool z.q]
theorem wzV_len (z : Wz) : (wzV z).length = 2 := rfl
theorem wzV_one (z : Wz) : ∀ u ∈ wzV z, u.oneCell' = true := fun u hu => by
  unfold wzV at hu
  rcases List.mem_cons.1 hu with e | e
  · rw [e]; rfl
  · rw [List.mem_singleton.1 e]; rfl
theorem infoWz : (Tryz.prog.info? 59).map (fun i => (i.zero, i.size, i.bytes)) = some (some (.agg #[.string ⟨#[]⟩, .bool false]), 2, 24) := by kernel_rfl
/-- a byte of a text that is told by a list -/
theorem bts_at {l pre post : List Nat} {x : Nat} (hl : ∀ y ∈ l, y < 256) (h : l = pre ++ x :: post) : pre.length < (bts l).size ∧ bt (bts l) pre.length = x := by
  subst h
  have hk : pre.length < (pre ++ x :: post).length := by simp
  exact ⟨by rw [bts_size]; exact hk, by rw [bts_bt _ hl _ hk]; simp⟩
theorem bts_cut {l pre mid post : List Nat} (h : l = pre ++ (mid ++ post)) : (bts l).extract pre.length (pre.length + mid.length) = bts mid := by
  subst h
  apply ByteArray.ext
  rw [ByteArray.data_extract]
  unfold bts
  apply Array.ext'
  simp [List.drop_append, List.take_append]
/-- how far the split has come -/
structure Sx (Z : List Wz) (D R : List Wz) (bl : Bool) (pre : List Nat) : Prop where
  z : Z = D ++ R
  j : jnW Z = pre ++ sfx bl R
theorem Sx.start (Z : List Wz) : Sx Z [] Z false [] := ⟨rfl, by rw [jnW_sfx]; rfl⟩
theorem Sx.blank {Z D : List Wz} {z : Wz} {R : List Wz} {pre : List Nat} (h : Sx Z D (z :: R) true pre) : jnW Z = pre ++ 32 :: sfx false (z :: R) ∧ Sx Z D (z :: R) false (pre ++ [32]) := by
  have := h.j
  rw [sfx_true] at this
  exact ⟨this, h.z, by rw [this]; simp⟩
theorem Sx.word {Z D : List Wz} {z : Wz} {R : List Wz} {pre : List Nat} (h : Sx Z D (z :: R) false pre) : jnW Z = pre ++ (shW z ++ sfx true R) ∧ Sx Z (D ++ [z]) R true (pre ++ shW z) := by
  have := h.j
  rw [sfx_false] at this
  exact ⟨this, by rw [h.z]; simp, by rw [this]; simp⟩
set_option maxRecDepth 100000 in
set_option maxHeartbeats 8000000 in
/-- the law's split -/
theorem lsplit_any (Z : List Wz) (w : World) (hZ : ∀ z ∈ Z, OkW z) (hl : (jnW Z).length ≤ 16777216) (hn : Z.length ≤ 16777216) :
    Calls Tryz.prog 8 #[.string (bts (jnW Z))] w fun r w' => ∃ q c, r = .returned (.slice q Z.length c) ∧ w'.ownsRow w.heap.size 59 2 (.slice q Z.length c) Z.length (rowV wzV Z) ∧ Below w.heap.size w w' := by
  have hlt := jnW_lt hZ
  have HOk := hide' hZ
  obtain ⟨s, hs⟩ : ∃ s, bts (jnW Z) = s := ⟨_, rfl⟩
  have hsz : s.size = (jnW Z).length := by rw [← hs, bts_size]
  have HAt : Hid (∀ (pre post : List Nat) (x : Nat), jnW Z = pre ++ x :: post → pre.length < s.size ∧ bt s pre.length = x) := fun pre post x h => by rw [← hs]; exact bts_at hlt h
  have HCut : Hid (∀ (pre mid post : List Nat), jnW Z = pre ++ (mid ++ post) → s.extract pre.length (pre.length + mid.length) = bts mid ∧ pre.length + mid.length ≤ s.size) := fun pre mid post h => by
    rw [← hs]
    exact ⟨bts_cut h, by rw [bts_size, h]; simp⟩
  have HEq : Hid (∀ pre, jnW Z = pre → pre.length = s.size) := fun pre h => by rw [hsz, h]
  rw [hs]
  have hsl : s.size ≤ 16777216 := by rw [hsz]; exact hl
  clear hs hsz hlt hZ hl
  go_enter Tryz.func8, Tryz.ntmps8
  go_wp2_with fail
  go_loopw [3, 4] (fun ov kv wr => ∃ (D R : List Wz) (bl : Bool) (pre : List Nat) (k : Nat) (q : Option Addr) (c : Nat), ov = .slice q D.length c ∧ kv = .int .i64 (k : Int) ∧ k ≤ s.size ∧ Hid (pre.length = k) ∧ Hid (Sx Z D R bl pre) ∧ Hid (wr.ownsRow w.heap.size 59 2 (.slice q D.length c) D.length (rowV wzV D)) ∧ Hid (Below w.heap.size w wr)) (fun _ kv _ => s.size - (intOf kv).toNat)
  case atStart => exact ⟨[], Z, false, [], 0, none, 0, rfl, rfl, Nat.zero_le _, rfl, Sx.start Z, row_nil _ _ _ _, Below.refl _ _⟩
  case round =>
    obtain ⟨D, R, bl, pre, k, q, c, rfl, rfl, hk, HP, HS, HO, HB⟩ := hrel
    cases R with
    | nil =>
      have hks : k = s.size := by
        have h1 := HS.out.j
        rw [sfx_nil, List.append_nil] at h1
        rw [← HP.out]; exact HEq.out pre h1
      have hD : D = Z := by have := HS.out.z; rw [List.append_nil] at this; exact this.symm
      subst hD
      have hkl : ¬ (k : Int) < (s.size : Int) := by omega
      have HKS := hide' hks
      clear hks HS HP HAt HCut HEq HOk
      go_wp2_with fail
      go_ret
      exact ⟨q, c, rfl, HO.out, HB.out⟩
    | cons z R =>
      cases bl with
      | true =>
        obtain ⟨h1, h2⟩ := HS.out.blank
        obtain ⟨hlt, hx⟩ := HAt.out pre _ 32 h1
        rw [HP.out] at hlt hx
        obtain ⟨y, hy, HY, hyl⟩ := bt_wrap hlt
        have hy32 : y = 32 := by rw [← HY, hx]
        subst hy32
        have HS2 := hide' h2
        have hkl : (k : Int) < (s.size : Int) := by omega
        have HPl : Hid ((pre ++ [32]).length = k + 1) := by unfold Hid; rw [List.length_append, HP.out]; rfl
        clear h1 h2 hx HY HS HP HAt HCut HEq HOk
        go_wp2_with fail
        exact ⟨⟨D, z :: R, false, pre ++ [32], k + 1, q, c, rfl, by go_num, by omega, HPl, HS2, HO, HB⟩, by simp [intOf]; omega⟩
      | false =>
        obtain ⟨h1, h2⟩ := HS.out.word
        have HS2 := hide' h2
        have HJ := hide' h1
        have hok := HOk.out z (by rw [HS.out.z]; simp)
        have HDl : Hid (D.length + 1 ≤ Z.length) := by unfold Hid; rw [HS.out.z]; simp
        obtain ⟨zt, zq⟩ := z
        cases zq with
        | true =>
          have hq := hok.qu rfl
          have e1 : shW ⟨zt, true⟩ = 34 :: (zt ++ [34]) := rfl
          rw [e1] at HJ HS2
          simp only at hq
          have HJ0 : Hid (jnW Z = pre ++ 34 :: (zt ++ [34] ++ sfx true R)) := by unfold Hid; rw [HJ.out]; rfl
          obtain ⟨hlt, hx⟩ := HAt.out pre _ 34 HJ0.out
          rw [HP.out] at hlt hx
          obtain ⟨y, hy, HY, hyl⟩ := bt_wrap hlt
          have hy34 : y = 34 := by rw [← HY, hx]
          subst hy34
          have hkl : (k : Int) < (s.size : Int) := by omega
          have HIn : Hid (∀ a b : List Nat, zt = a ++ b → ∀ x b', b ++ [34] = x :: b' → k + 1 + a.length < s.size ∧ bt s (k + 1 + a.length) = x) := fun a b hab x b' hb => by
            have h3 : jnW Z = (pre ++ 34 :: a) ++ x :: (b' ++ sfx true R) := by
              rw [HJ0.out, hab, List.append_assoc a b, hb]; simp
            have := HAt.out _ _ x h3
            rw [List.length_append, List.length_cons, HP.out] at this
            rw [show k + 1 + a.length = k + (a.length + 1) by omega]
            exact this
          have HCt : Hid (s.extract (k + 1) (k + 1 + zt.length) = bts zt ∧ k + 1 + zt.length ≤ s.size) := by
            have h3 : jnW Z = (pre ++ [34]) ++ (zt ++ ([34] ++ sfx true R)) := by rw [HJ0.out]; simp
            have := HCut.out _ _ _ h3
            rw [List.length_append, HP.out] at this
            exact this
          have HPl : Hid ((pre ++ 34 :: (zt ++ [34])).length = k + 1 + zt.length + 1) := by
            unfold Hid
            rw [List.length_append, List.length_cons, List.length_append, HP.out, List.length_singleton]
            omega
          have HQ0 := hide' hq
          obtain ⟨wo, hwo⟩ : ∃ wo, wo = wr := ⟨_, rfl⟩
          subst hwo
          clear h1 h2 hx HY HS HP HAt HCut HEq HOk hok HJ HJ0 e1 hq
          go_wp2_with fail
          go_loopw [5] (fun jv wv => ∃ (a b : List Nat) (j : Nat), jv = .int .i64 (j : Int) ∧ j = k + 1 + a.length ∧ Hid (zt = a ++ b) ∧ Hid (okq b = true) ∧ Hid (wv = wo)) (fun jv _ => s.size - (intOf jv).toNat)
          case atStart => exact ⟨[], zt, k + 1, by go_num, by simp, rfl, HQ0, rfl⟩
          case round =>
            obtain ⟨a, b, j, rfl, hj, HAB, HQb, HW⟩ := hrel
            have hw := HW.out
            subst hw
            clear HW
            cases b with
            | nil =>
              obtain ⟨hjl, hjx⟩ := HIn.out a [] HAB.out 34 [] rfl
              have ha : a = zt := by have := HAB.out; rw [List.append_nil] at this; exact this.symm
              rw [← hj] at hjl hjx
              obtain ⟨y, hy, HY, hyl⟩ := bt_wrap hjl
              have hy34 : y = 34 := by rw [← HY, hjx]
              subst hy34
              have hjE : j = k + 1 + zt.length := by rw [hj, ha]
              have pj : (j : Int) < (s.size : Int) := by omega
              have pj0 : ¬ (j : Int) ≥ (s.size : Int) := by omega
              have hcut := HCt.out.1
              rw [← hjE] at hcut
              have pk1 : (k : Int) + 1 ≤ (j : Int) := by omega
              have pj1 : (j : Int) ≤ (s.size : Int) := by omega
              have ek : IntKind.i64.wrap ((k : Int) + 1) = ((k + 1 : Nat) : Int) := by rw [IntKind.wrap_i64]; omega
              have hcut2 : s.extract (k + 1) j = bts zt := hcut
              obtain ⟨T, hT⟩ : ∃ T, bts zt = T := ⟨_, rfl⟩
              rw [hT] at hcut hcut2
              obtain ⟨wb, hwb⟩ : ∃ wb, wr.alloc (.cells #[.string T, .bool true] 59) = wb := ⟨_, rfl⟩
              have HRb : Hid (RowAt 2 wzV wb (some ⟨wr.heap.size, 0, none⟩) [⟨zt, true⟩]) := by
                have := row_box (C := 2) (V := wzV) (x := ⟨zt, true⟩) wzV_len (bxNew wr (wzV ⟨zt, true⟩).toArray 59)
                unfold wzV at this
                simp only at this
                rw [hT] at this
                rw [← hwb]
                exact this
              have HOb : Hid (wb.ownsRow w.heap.size 59 2 (.slice q D.length c) D.length (rowV wzV D)) := hwb ▸ HO.out.alloc _
              have HBb : Hid (Below w.heap.size w wb) := hwb ▸ HB.out.alloc HB.out.size _
              have HJE := hide' hjE
              clear hj hjx HY ha HAB HQb HIn HCt hjE hT HQ0
              go_wp2_with (at_builtin; refine wpList_append_rows (V := wzV) Tryz.underlying29 infoWz rfl (by decide) (by decide) wzV_len wzV_one rfl _ _ rfl w.heap.size _ D.length (rowV wzV D) ?_ HOb.out (some ⟨wr.heap.size, 0, none⟩) [⟨zt, true⟩] 1 ?_ HRb.out (fun h => absurd h (Option.some_ne_none _)) (by have := HDl.out; simp only [List.length_singleton]; omega) HBb.out.size ?_; rfl; rfl; intro v9 w9 ho9 hg9; obtain ⟨q9, c9, hv9, -⟩ := own_shape ho9; subst hv9; have HO9 := hide' ho9; have HB9 : Hid (Below w.heap.size w w9) := HBb.out.grown hg9 HBb.out.size (fun g e => ownBlock_le HOb.out e); clear ho9 hg9)
              have hjE := HJE.out
              refine ⟨⟨D ++ [⟨zt, true⟩], R, true, pre ++ 34 :: (zt ++ [34]), j + 1, q9, c9, by rw [List.length_append]; rfl, by go_num, by omega, by rw [hjE]; exact HPl, HS2, ?_, HB9⟩, by simp [intOf]; omega⟩
              rw [List.length_append, rowV_app]
              exact HO9.out
            | cons x b =>
              obtain ⟨hjl, hjx⟩ := HIn.out a (x :: b) HAB.out x (b ++ [34]) rfl
              rw [← hj] at hjl hjx
              obtain ⟨y, hy, HY, hyl⟩ := bt_wrap hjl
              have hyx : y = x := by rw [← HY, hjx]
              subst hyx
              have pj : (j : Int) < (s.size : Int) := by omega
              have hq := HQb.out
              by_cases h34 : y = 34
              · subst h34; unfold okq at hq; rw [if_pos rfl] at hq; cases hq
              · have hn34 : ((y : Int) == 34) = false := by rw [beq_eq_false_iff_ne]; omega
                have hb34 : ((y : Int) != 34) = true := by unfold bne; rw [hn34]; rfl
                by_cases h92 : y = 92
                · subst h92
                  cases b with
                  | nil => unfold okq at hq; rw [if_neg (by omega), if_pos rfl] at hq; cases hq
                  | cons x2 b =>
                    rw [okq_mark] at hq
                    have HQ2 := hide' hq
                    obtain ⟨hj2, -⟩ := HIn.out (a ++ [92]) (x2 :: b) (by rw [HAB.out]; simp) x2 (b ++ [34]) rfl
                    have HA2 : Hid (zt = (a ++ [92, x2]) ++ b) := by unfold Hid; rw [HAB.out]; simp
                    rw [List.length_append, List.length_singleton] at hj2
                    have hj3 : j + 1 < s.size := by omega
                    have HJj := hide' hj
                    clear hjx HY hq HAB HQb HIn hj2 hj
                    go_wp2_with fail
                    have hj := HJj.out
                    exact ⟨⟨a ++ [92, x2], b, j + 2, by go_num, by rw [List.length_append, hj]; simp only [List.length_cons, List.length_nil]; omega, HA2, HQ2, (by first | exact hide' trivial | exact rfl)⟩, by simp [intOf]; omega⟩
                · have hn92 : ((y : Int) == 92) = false := by rw [beq_eq_false_iff_ne]; omega
                  rw [okq_plain h34 h92] at hq
                  have HQ2 := hide' hq
                  have HA2 : Hid (zt = (a ++ [y]) ++ b) := by unfold Hid; rw [HAB.out]; simp
                  have HJj := hide' hj
                  clear hjx HY hq HAB HQb HIn hj
                  go_wp2_with fail
                  have hj := HJj.out
                  exact ⟨⟨a ++ [y], b, j + 1, by go_num, by rw [List.length_append, hj]; simp only [List.length_singleton]; omega, HA2, HQ2, (by first | exact hide' trivial | exact rfl)⟩, by simp [intOf]; omega⟩
        | false =>
          obtain ⟨hz0, hz32, hz34⟩ := hok.pl rfl
          have e1 : shW ⟨zt, false⟩ = zt := rfl
          rw [e1] at HJ HS2
          simp only at hz0 hz32 hz34
          have HIn : Hid (∀ a b : List Nat, zt = a ++ b → ∀ x b', b ++ sfx true R = x :: b' → k + a.length < s.size ∧ bt s (k + a.length) = x) := fun a b hab x b' hb => by
            have h3 : jnW Z = (pre ++ a) ++ x :: b' := by
              rw [HJ.out, hab, List.append_assoc a b, hb]; simp
            have := HAt.out _ _ x h3
            rw [List.length_append, HP.out] at this
            exact this
          have HCt : Hid (s.extract k (k + zt.length) = bts zt ∧ k + zt.length ≤ s.size) := by
            have := HCut.out _ _ _ HJ.out
            rw [HP.out] at this
            exact this
          have HEnd : Hid (R = [] → k + zt.length = s.size) := fun h => by
            subst h
            have h3 : jnW Z = pre ++ zt := by rw [HJ.out, sfx_nil, List.append_nil]
            have := HEq.out _ h3
            rw [List.length_append, HP.out] at this
            exact this
          have HPl : Hid ((pre ++ zt).length = k + zt.length) := by
            unfold Hid
            rw [List.length_append, HP.out]
          obtain ⟨x0, zr, hzr⟩ : ∃ x0 zr, zt = x0 :: zr := by
            cases zt with
            | nil => exact absurd rfl hz0
            | cons x0 zr => exact ⟨x0, zr, rfl⟩
          have h032 : x0 ≠ 32 := hz32 x0 (by rw [hzr]; simp)
          have h034 : x0 ≠ 34 := fun e => hz34 (by rw [hzr, e]; rfl)
          obtain ⟨hlt, hx⟩ := HIn.out [] zt rfl x0 (zr ++ sfx true R) (by rw [hzr]; rfl)
          rw [List.length_nil, Nat.add_zero] at hlt hx
          obtain ⟨y, hy, HY, hyl⟩ := bt_wrap hlt
          have hyx : y = x0 := by rw [← HY, hx]
          subst hyx
          have hkl : (k : Int) < (s.size : Int) := by omega
          have hn32 : ((y : Int) == 32) = false := by rw [beq_eq_false_iff_ne]; omega
          have hn34 : ((y : Int) == 34) = false := by rw [beq_eq_false_iff_ne]; omega
          have HZ32 := hide' hz32
          have HLen : Hid (0 < zt.length) := by unfold Hid; rw [hzr]; simp
          obtain ⟨wo, hwo⟩ : ∃ wo, wo = wr := ⟨_, rfl⟩
          subst hwo
          clear h1 h2 hx HY HS HP HAt HCut HEq HOk hok HJ e1 hz0 hz32 hz34 hzr
          go_wp2_with fail
          go_loopw [5] (fun jv wv => ∃ (a b : List Nat) (j : Nat), jv = .int .i64 (j : Int) ∧ j = k + a.length ∧ Hid (zt = a ++ b) ∧ Hid (wv = wo)) (fun jv _ => s.size - (intOf jv).toNat)
          case atStart => exact ⟨[], zt, k, rfl, by simp, rfl, rfl⟩
          case round =>
            obtain ⟨a, b, j, rfl, hj, HAB, HW⟩ := hrel
            have hw := HW.out
            subst hw
            clear HW
            cases b with
            | cons x b =>
              obtain ⟨hjl, hjx⟩ := HIn.out a (x :: b) HAB.out x (b ++ sfx true R) rfl
              rw [← hj] at hjl hjx
              obtain ⟨y2, hy2, HY2, hyl2⟩ := bt_wrap hjl
              have hyx : y2 = x := by rw [← HY2, hjx]
              subst hyx
              have h32 : y2 ≠ 32 := HZ32.out y2 (by rw [HAB.out]; simp)
              have hm32 : ((y2 : Int) == 32) = false := by rw [beq_eq_false_iff_ne]; omega
              have hb32 : ((y2 : Int) != 32) = true := by unfold bne; rw [hm32]; rfl
              have pj : (j : Int) < (s.size : Int) := by omega
              have HA2 : Hid (zt = (a ++ [y2]) ++ b) := by unfold Hid; rw [HAB.out]; simp
              have HJj := hide' hj
              clear hjx HY2 HAB HIn hj
              go_wp2_with fail
              have hj := HJj.out
              exact ⟨⟨a ++ [y2], b, j + 1, by go_num, by rw [List.length_append, hj]; simp only [List.length_singleton]; omega, HA2, (by first | exact hide' trivial | exact rfl)⟩, by simp [intOf]; omega⟩
            | nil =>
              have ha : a = zt := by have := HAB.out; rw [List.append_nil] at this; exact this.symm
              have hjE : j = k + zt.length := by rw [hj, ha]
              have hcut := HCt.out.1
              have hjs := HCt.out.2
              rw [← hjE] at hcut hjs
              have pk1 : (k : Int) ≤ (j : Int) := by omega
              have pj1 : (j : Int) ≤ (s.size : Int) := by omega
              obtain ⟨T, hT⟩ : ∃ T, bts zt = T := ⟨_, rfl⟩
              rw [hT] at hcut
              obtain ⟨wb, hwb⟩ : ∃ wb, wr.alloc (.cells #[.string T, .bool false] 59) = wb := ⟨_, rfl⟩
              have HRb : Hid (RowAt 2 wzV wb (some ⟨wr.heap.size, 0, none⟩) [⟨zt, false⟩]) := by
                have := row_box (C := 2) (V := wzV) (x := ⟨zt, false⟩) wzV_len (bxNew wr (wzV ⟨zt, false⟩).toArray 59)
                unfold wzV at this
                simp only at this
                rw [hT] at this
                rw [← hwb]
                exact this
              have HOb : Hid (wb.ownsRow w.heap.size 59 2 (.slice q D.length c) D.length (rowV wzV D)) := hwb ▸ HO.out.alloc _
              have HBb : Hid (Below w.heap.size w wb) := hwb ▸ HB.out.alloc HB.out.size _
              have HJE := hide' hjE
              cases R with
              | nil =>
                have hjz : j = s.size := by rw [hjE]; exact HEnd.out rfl
                have pj : ¬ (j : Int) < (s.size : Int) := by omega
                have HJZ := hide' hjz
                clear hj ha HAB HIn HCt hjE hT HEnd hjz
                go_wp2_with (at_builtin; refine wpList_append_rows (V := wzV) Tryz.underlying29 infoWz rfl (by decide) (by decide) wzV_len wzV_one rfl _ _ rfl w.heap.size _ D.length (rowV wzV D) ?_ HOb.out (some ⟨wr.heap.size, 0, none⟩) [⟨zt, false⟩] 1 ?_ HRb.out (fun h => absurd h (Option.some_ne_none _)) (by have := HDl.out; simp only [List.length_singleton]; omega) HBb.out.size ?_; rfl; rfl; intro v9 w9 ho9 hg9; obtain ⟨q9, c9, hv9, -⟩ := own_shape ho9; subst hv9; have HO9 := hide' ho9; have HB9 : Hid (Below w.heap.size w w9) := HBb.out.grown hg9 HBb.out.size (fun g e => ownBlock_le HOb.out e); clear ho9 hg9)
                have hjE := HJE.out
                have hll := HLen.out
                refine ⟨⟨D ++ [⟨zt, false⟩], [], true, pre ++ zt, j, q9, c9, by rw [List.length_append]; rfl, rfl, by omega, by rw [hjE]; exact HPl, HS2, ?_, HB9⟩, by simp [intOf]; omega⟩
                rw [List.length_append, rowV_app]
                exact HO9.out
              | cons z2 R =>
                obtain ⟨hjl, hjx⟩ := HIn.out a [] HAB.out 32 (sfx false (z2 :: R)) rfl
                rw [← hj] at hjl hjx
                obtain ⟨y2, hy2, HY2, hyl2⟩ := bt_wrap hjl
                have hyx : y2 = 32 := by rw [← HY2, hjx]
                subst hyx
                have pj : (j : Int) < (s.size : Int) := by omega
                clear hj ha HAB HIn HCt hjE hT HEnd hjx HY2
                go_wp2_with (at_builtin; refine wpList_append_rows (V := wzV) Tryz.underlying29 infoWz rfl (by decide) (by decide) wzV_len wzV_one rfl _ _ rfl w.heap.size _ D.length (rowV wzV D) ?_ HOb.out (some ⟨wr.heap.size, 0, none⟩) [⟨zt, false⟩] 1 ?_ HRb.out (fun h => absurd h (Option.some_ne_none _)) (by have := HDl.out; simp only [List.length_singleton]; omega) HBb.out.size ?_; rfl; rfl; intro v9 w9 ho9 hg9; obtain ⟨q9, c9, hv9, -⟩ := own_shape ho9; subst hv9; have HO9 := hide' ho9; have HB9 : Hid (Below w.heap.size w w9) := HBb.out.grown hg9 HBb.out.size (fun g e => ownBlock_le HOb.out e); clear ho9 hg9)
                have hjE := HJE.out
                have hll := HLen.out
                refine ⟨⟨D ++ [⟨zt, false⟩], z2 :: R, true, pre ++ zt, j, q9, c9, by rw [List.length_append]; rfl, rfl, by omega, by rw [hjE]; exact HPl, HS2, ?_, HB9⟩, by simp [intOf]; omega⟩
                rw [List.length_append, rowV_app]
                exact HO9.out
end Go.Proofs.YtfacfhigehdejaaGreatDoor

/-
  Proofs: gazetteerlaw1.DataRounds. (The verifier's own text.)
-/
namespace Go.Proofs.YtfacfhigehdejaaGreatDoor
set_option linter.unusedVariables false
set_option linter.unusedSimpArgs false
open Go.RowKit Go.Shelf Go.Proofs.YtfacfhigehdejaaGreatDoor.Nm

/-- a type with fields is a type -/
theorem kinds_ty {t : Int} {ks : List Kind} (h : kindsOf t = some ks) : isTy t = true := by
  unfold kindsOf at h
  by_cases hc : t = 1
  · unfold isTy; exact decide_eq_true (by omega)
  rw [if_neg hc] at h; clear hc
  by_cases hc : t = 2 ∨ t = 5 ∨ t = 12 ∨ t = 39
  · unfold isTy; exact decide_eq_true (by omega)
  rw [if_neg hc] at h; clear hc
  by_cases hc : t = 6
  · unfold isTy; exact decide_eq_true (by omega)
  rw [if_neg hc] at h; clear hc
  by_cases hc : t = 13
  · unfold isTy; exact decide_eq_true (by omega)
  rw [if_neg hc] at h; clear hc
  by_cases hc : t = 15
  · unfold isTy; exact decide_eq_true (by omega)
  rw [if_neg hc] at h; clear hc
  by_cases hc : t = 16
  · unfold isTy; exact decide_eq_true (by omega)
  rw [if_neg hc] at h; clear hc
  by_cases hc : t = 28
  · unfold isTy; exact decide_eq_true (by omega)
  rw [if_neg hc] at h; clear hc
  by_cases hc : t = 33
  · unfold isTy; exact decide_eq_true (by omega)
  rw [if_neg hc] at h; clear hc
  by_cases hc : t = 35
  · unfold isTy; exact decide_eq_true (by omega)
  rw [if_neg hc] at h; clear hc
  by_cases hc : t = 43
  · unfold isTy; exact decide_eq_true (by omega)
  rw [if_neg hc] at h; clear hc
  by_cases hc : t = 46
  · unfold isTy; exact decide_eq_true (by omega)
  rw [if_neg hc] at h; clear hc
  by_cases hc : t = 47
  · unfold isTy; exact decide_eq_true (by omega)
  rw [if_neg hc] at h; clear hc
  by_cases hc : t = 48
  · unfold isTy; exact decide_eq_true (by omega)
  rw [if_neg hc] at h; clear hc
  by_cases hc : t = 50
  · unfold isTy; exact decide_eq_true (by omega)
  rw [if_neg hc] at h; clear hc
  by_cases hc : t = 51
  · unfold isTy; exact decide_eq_true (by omega)
  rw [if_neg hc] at h; clear hc
  by_cases hc : t = 257
  · unfold isTy; exact decide_eq_true (by omega)
  rw [if_neg hc] at h; clear hc
  by_cases hc : isDT t = true
  · unfold isDT at hc; simp only [Bool.and_eq_true] at hc; exact hc.1.1
  rw [if_neg hc] at h; cases h
theorem lit_parts : partsD 28 ⟨#[32, 1, 13, 184, 0, 0, 0, 0, 0, 0, 0, 0, 0, 0, 0, 1]⟩ = some [((1 : Kind), ⟨#[32, 1, 13, 184, 0, 0, 0, 0, 0, 0, 0, 0, 0, 0, 0, 1]⟩)] := by kernel_rfl
theorem lit_told : bts (jnW (tellA [((1 : Kind), ⟨#[32, 1, 13, 184, 0, 0, 0, 0, 0, 0, 0, 0, 0, 0, 0, 1]⟩)])) = ⟨#[50, 48, 48, 49, 58, 100, 98, 56, 58, 58, 49]⟩ := by kernel_rfl
/-- what DataRounds calls first -/
theorem show_lit (w : World) (hG : GD w) : Calls Tryz.prog 4 #[.int .i64 28, .string ⟨#[32, 1, 13, 184, 0, 0, 0, 0, 0, 0, 0, 0, 0, 0, 0, 1]⟩] w fun e w' => e = .returned (.tuple #[.string ⟨#[50, 48, 48, 49, 58, 100, 98, 56, 58, 58, 49]⟩, .int .i64 0]) ∧ Below w.heap.size w w' := by
  obtain ⟨ks, _, _, hok⟩ := ps_ok lit_parts
  have := show_yes 28 _ _ w lit_parts hok hG
  rwa [lit_told] at this
/-- the row of a split, word by word -/
theorem row_words {w : World} {base c : Nat} {q : Option Addr} {Z : List Wz} (h : w.ownsRow base 59 2 (.slice q Z.length c) Z.length (rowV wzV Z)) :
    (∀ j (z : Wz), Z[j]? = some z → ∃ b, q = some ⟨b, 0, none⟩ ∧ w.cell? ⟨b, j * 2, none⟩ = some (.string (bts z.t)) ∧ w.cell? ⟨b, j * 2 + 1, none⟩ = some (.bool z.q)) ∧ Z.length ≤ c ∧ c ≤ 9223372036854775807 := by
  refine ⟨fun j z hz => ?_, ?_⟩
  · obtain ⟨hj, rfl⟩ := List.getElem?_eq_some_iff.1 hz
    obtain ⟨g, hg⟩ : ∃ g, q = some ⟨g, 0, none⟩ := by
      rcases h.2 with ⟨h1, h0⟩ | ⟨g, cap, cur, h1, _⟩
      · omega
      · injection h1 with h1; exact ⟨g, h1⟩
    subst hg
    refine ⟨g, rfl, ?_, ?_⟩
    · have h1 := h.cellAt (j * 2) (by omega)
      have h2 := rowV_get wzV_len Z j 0 hj (by omega)
      rw [Nat.add_zero] at h2
      rw [h1, h2]; rfl
    · have h1 := h.cellAt (j * 2 + 1) (by omega)
      rw [h1, rowV_get wzV_len Z j 1 hj (by omega)]; rfl
  · rcases h.2 with ⟨h1, h0⟩ | ⟨g, cap, cur, h1, _, _, h2, h3, _⟩
    · injection h1 with h1 h2 h3
      omega
    · injection h1 with h1 h4 h5
      subst h5
      unfold maxLen at h3
      exact ⟨h2, by omega⟩
set_option maxRecDepth 100000 in
set_option maxHeartbeats 4000000 in
/-- gazetteerlaw1.DataRounds -/
theorem dataRounds_any (n : Int) (s1 s2 : ByteArray) (w : World) (hn : -9223372036854775808 ≤ n ∧ n ≤ 9223372036854775807) (h1 : s1.size ≤ maxLen) (h2 : s2.size ≤ maxLen) (hG : GD w) :
    Calls Tryz.prog 3 #[.int .i64 n, .string s1, .string s2] w fun e w' => e = .returned (.bool true) ∧ Below w.heap.size w w' := by
  have hs1 : s1.size ≤ 9223372036854775807 := by unfold maxLen at h1; omega
  have HL := hide' (fun V hV => show_lit V hV)
  have HN := hide' (fun V => check_any s2 V h2)
  have HC := hide' (fun V => dataCheck_any n s1 V hs1)
  obtain ⟨o, hon, ho⟩ : ∃ o : ByteArray, isN o = true ∧ o = (if isN s2 = true then s2 else ⟨#[0]⟩) := by
    refine ⟨_, ?_, rfl⟩
    split
    · assumption
    · decide +kernel
  have HG := hide' hG
  cases hp : partsD n s1 with
  | none =>
    have HS := hide' (fun V => show_no n s1 V hs1 hp)
    obtain ⟨E, hE⟩ : ∃ E, errD n s1 = E := ⟨_, rfl⟩
    have hE7 := errD_of_none hp
    rw [hE] at HS HC hE7
    have hE0 : ¬ (E : Int) = 0 := by omega
    clear hE hE7 hp hs1 h1 h2 hG ho hon
    cases hc : isN s2
    all_goals
      have hck : chk s2 = (if isN s2 = true then 0 else 1) := rfl
      rw [hc] at hck
      simp only [if_true, if_false, Bool.false_eq_true] at hck
      rw [hck] at HN
      clear hck hc
      go_enter Tryz.func3, Tryz.ntmps3
      go_wp2_with (first
        | (go_at_call 4; refine (HL.out _ HG.out).mono ?_; rintro e1 w1 ⟨rfl, hB1⟩; have HB1 := hide' hB1; clear hB1 HL)
        | (go_at_call 5; refine (HN.out _).mono ?_; rintro e2 w2 ⟨rfl, hB2⟩; have HB2 := hide' (bstep HB1.out hB2 HB1.out.size); clear hB2)
        | (go_at_call 4; refine (HS.out _).mono ?_; rintro e3 w3 ⟨rfl, hB3⟩; have HB3 := hide' (bstep HB2.out hB3 HB2.out.size); clear hB3)
        | (go_at_call 6; refine (HC.out _).mono ?_; rintro e4 w4 ⟨rfl, hB4⟩; have HB4 := hide' (bstep HB3.out hB4 HB3.out.size); clear hB4))
      go_ret
      exact ⟨rfl, HB4.out⟩
  | some ps =>
    obtain ⟨ks, hkk, _, hok⟩ := ps_ok hp
    have hty := kinds_ty hkk
    unfold isTy at hty
    have hty := of_decide_eq_true hty
    obtain ⟨k, rfl⟩ : ∃ k : Nat, n = (k : Int) := ⟨n.toNat, by omega⟩
    have hk1 : 1 ≤ k := by omega
    have hk2 : k ≤ 65535 := by omega
    have HS := hide' (fun V (hV : GD V) => show_yes (k : Int) s1 ps V hp hok hV)
    have HR := hide' (fun q c V hrow hcap (hV : GD V) => dataRead_any (k : Int) s1 o ps q c V hp hrow hcap hon hV)
    rw [errD_of_parts hp] at HC
    obtain ⟨hok1, hok2⟩ := hok.tell
    have hlen := jnW_len (tellA ps)
    have HP := hide' (fun V => lsplit_any (tellA ps) V hok1 (by omega) (by omega))
    have HRow : Hid (∀ (V : World) (base : Nat) (q : Option Addr) (c : Nat), V.ownsRow base 59 2 (.slice q (tellA ps).length c) (tellA ps).length (rowV wzV (tellA ps)) → _) := fun V base q c h => row_words h
    have hnl : (nameT (k : Int)).size ≤ 10 := by have := (nameT_ok hk1 hk2).2; rwa [lsB_len] at this
    have HT := hide' (fun V (hV : GD V) => typeName_any (k : Int) V hV.gw (by omega))
    have HO := hide' (fun V (hV : GD V) => typeOf_any (nameT (k : Int)) V (by omega) hV.gw)
    rw [typeOf_name hk1 hk2] at HO
    generalize bts (jnW (tellA ps)) = S at *
    generalize nameT (k : Int) = N at *
    obtain ⟨m, hm⟩ : ∃ m, (tellA ps).length = m := ⟨_, rfl⟩
    rw [hm] at HP HR HRow
    clear hm hnl hlen hok1 hok2 hty hkk hok hs1 h1 h2 hG hon hp hn
    cases hc : isN s2
    all_goals
      have hck : chk s2 = (if isN s2 = true then 0 else 1) := rfl
      rw [hc] at hck ho
      simp only [if_true, if_false, Bool.false_eq_true] at hck ho
      rw [hck] at HN
      subst ho
      clear hck hc
      go_enter Tryz.func3, Tryz.ntmps3
      go_wp2_with (first
        | (go_at_call 4; refine (HL.out _ HG.out).mono ?_; rintro e1 w1 ⟨rfl, hB1⟩; have HB1 := hide' hB1; clear hB1 HL)
        | (go_at_call 5; refine (HN.out _).mono ?_; rintro e2 w2 ⟨rfl, hB2⟩; have HB2 := hide' (bstep HB1.out hB2 HB1.out.size); clear hB2)
        | (go_at_call 4; refine (HS.out _ (HG.out.below HB2.out)).mono ?_; rintro e3 w3 ⟨rfl, hB3⟩; have HB3 := hide' (bstep HB2.out hB3 HB2.out.size); clear hB3)
        | (go_at_call 6; refine (HC.out _).mono ?_; rintro e4 w4 ⟨rfl, hB4⟩; have HB4 := hide' (bstep HB3.out hB4 HB3.out.size); clear hB4)
        | (go_at_call 8; refine (HP.out _).mono ?_; rintro e5 w5 ⟨q, c, rfl, ho5, hB5⟩; have HB5 := hide' (bstep HB4.out hB5 HB4.out.size); have HR5 := hide' (HRow.out _ _ _ _ ho5); clear hB5 ho5)
        | (go_at_call 7; refine (HR.out _ _ _ HR5.out.1 HR5.out.2 (HG.out.below HB5.out)).mono ?_; rintro e6 w6 ⟨rfl, hB6⟩; have HB6 := hide' (bstep HB5.out hB6 HB5.out.size); clear hB6)
        | (go_at_call 10; refine (HT.out _ (HG.out.below HB6.out)).mono ?_; rintro e7 w7 ⟨rfl, hB7⟩; have HB7 := hide' (bstep HB6.out hB7 HB6.out.size); clear hB7)
        | (go_at_call 9; refine (HO.out _ (HG.out.below HB7.out)).mono ?_; rintro e8 w8 ⟨rfl, hB8⟩; have HB8 := hide' (bstep HB7.out hB8 HB7.out.size); clear hB8))
      go_ret
      exact ⟨rfl, HB8.out⟩
end Go.Proofs.YtfacfhigehdejaaGreatDoor
