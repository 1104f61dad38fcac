import Derived.Test.YtennkhdhnbdbeaaGreatSgcG
import Derived.Test.YtennkhdhnbdbeaaGreatPrtG
import Derived.Test.YtennkhdhnbdbeaaGreatPrW
import Derived.Test.YtennkhdhnbdbeaaGreatCntG
import Derived.Test.YtennkhdhnbdbeaaGreatSgd
import Derived.Test.YtennkhdhnbdbeaaGreatSk4G
/-
  SealStars: what stands behind the set. (The verifier's own text.)
-/
namespace Go.Proofs.YtennkhdhnbdbeaaGreat
set_option linter.unusedVariables false
set_option linter.unusedSimpArgs false
open Go.RowKit Go.Shelf Go.Sort Go.Proofs.YtennkhdhnbdbeaaGreat.Nm

/-- key and set in memory -/
def Sp (w wc : World) (R G : Nat) (ky rc : Array Value) : Prop := Bx wc R ky 23 ∧ Bx wc G rc 27 ∧ Below w.heap.size w wc ∧ w.heap.size ≤ R ∧ R < G
theorem Sp.step {w wc wd : World} {R G : Nat} {ky rc : Array Value} (h : Sp w wc R G ky rc) (hB : Below wc.heap.size wc wd) : Sp w wd R G ky rc := ⟨h.1.below hB h.1.lt, h.2.1.below hB h.2.1.lt, bstep h.2.2.1 hB h.2.2.1.size, h.2.2.2⟩
/-- with the signature -/
def Sq (w wc : World) (R G S : Nat) (ky rc sg : Array Value) : Prop := Sp w wc R G ky rc ∧ Bx wc S sg 27 ∧ G < S
theorem Sq.step {w wc wd : World} {R G S : Nat} {ky rc sg : Array Value} (h : Sq w wc R G S ky rc sg) (hB : Below wc.heap.size wc wd) : Sq w wd R G S ky rc sg := ⟨h.1.step hB, h.2.1.below hB h.2.1.lt, h.2.2⟩
theorem Sq.drew {w wc : World} {R G S : Nat} {ky rc sg : Array Value} (h : Sq w wc R G S ky rc sg) : Sq w wc.drew R G S ky rc sg := ⟨⟨h.1.1, h.1.2.1, h.1.2.2.1.drew, h.1.2.2.2⟩, h.2⟩
theorem Sq.start {w wc : World} {R G : Nat} {ky rc : Array Value} (h : Sp w wc R G ky rc) (sg : Array Value) : Sq w (wc.alloc (.cells sg 27)) R G wc.heap.size ky rc sg := ⟨h.step ((Below.refl _ _).alloc (Nat.le_refl _) _), World.alloc_heap_new wc _, h.2.1.lt⟩
theorem rs_one {wc : World} {G : Nat} {o d : ByteArray} {t c l : Int} {T : TypeId} (h : Bx wc G #[.string o, .int .i64 t, .int .i64 c, .int .i64 l, .string d] T) : RsAt wc (some ⟨G, 0, none⟩) [⟨o, t, c, l, d⟩] := by
  intro k hk
  have hk0 : k = 0 := by simpa using hk
  subst hk0
  exact ⟨G, 0, rfl, h.lt, h.cell rfl, h.cell rfl, h.cell rfl, h.cell rfl, h.cell rfl⟩
theorem labels_row (n : ByteArray) (w : World) (hm : n.size ≤ maxLen) (hN : isN n = true) :
    Calls Tryz.prog 18 #[.string n] w fun e W' => ∃ p c, e = .returned (.slice p (labs n).length c) ∧ StrsAt W' p (labs n) ∧ (p = none → c = 0) ∧ Below w.heap.size w W' := by
  refine (labels_own n w hm).mono ?_
  rintro e w' ⟨p, c, rfl, ⟨ho, -⟩, hB⟩
  rw [labsOr_yes hN] at ho ⊢
  refine ⟨p, c, rfl, ?_, ?_, hB⟩
  · obtain ⟨p', c', hv, hs⟩ := Strs.of_owns ho
    injection hv with h1 h2 h3
    subst h1
    exact hs
  · rintro rfl
    rcases ho.2 with ⟨h1, -⟩ | ⟨g, cap, cur, h1, -⟩
    · injection h1
    · injection h1 with h1; cases h1
set_option maxRecDepth 100000 in
set_option maxHeartbeats 8000000 in
theorem stars_no (n d sn PB : ByteArray) (t : Int) (pa : Option Addr) (ca : Nat) (ah : List ByteArray) (m c s R G : Nat) (w V : World) (HP : Hid (Sp w V R G #[.int .i64 256, .int .i64 (m : Int), .int .i64 (c : Int), .int .i64 (s : Int)] #[.string sn, .int .i64 t, .int .i64 1, .int .i64 60, .string d])) (E : Int) (hE : ¬ E = 0)
    (HSN : Hid (∀ W : World, RsAt W (some ⟨G, 0, none⟩) [⟨sn, t, 1, 60, d⟩] → Calls Tryz.prog 8 #[.agg #[.int .i64 256, .int .i64 (m : Int), .int .i64 (c : Int), .int .i64 (s : Int)], .string n, .slice (some ⟨G, 0, none⟩) 1 1, .int .i64 0, .int .i64 9] W fun r w' => r = .returned (.tuple #[.agg #[.string ⟨#[]⟩, .int .i64 0, .int .i64 0, .int .i64 0, .string ⟨#[]⟩], .int .i64 E]) ∧ Below W.heap.size W w')) (x0 x1 x2 x5 x6 x7 x8 x9 x10 x11 x12 x13 x14 x16 x17 x18 x20 x21 x22 x23 x24 x25 x26 x27 x28 x29 x30 x31 x32 x33 x34 x35 x36 x37 x38 x39 x40 x41 x42 x43 x44 x45 x46 x47 x48 x49 x50 x51 x52 x53 x54 x55 x56 x57 x58 x59 x60 x61 x62 x63 x64 x65 x66 x67 x68 x69 x70 x71 x72 x73 x74 x75 x76 x77 x78 x79 x80 x81 x82 x83 x84 x85 x86 x87 x88 x89 x90 x91 x92 x93 x94 x95 x96 x97 x98 x99 x100 x101 x102 x103 x104 x105 x106 x107 : Value) :
    Code.wp Tryz.prog (((Tryz.f6.body.map (tailsS 7)).getD []).getD 0 .skip) (bodyPost Tryz.prog Tryz.f6 fun r w' => r = .returned (.bool true) ∧ Below w.heap.size w w') ⟨List.toArray (x0 :: x1 :: x2 :: (.string n : Value) :: (.slice pa ah.length ca : Value) :: x5 :: x6 :: x7 :: x8 :: x9 :: x10 :: x11 :: x12 :: x13 :: x14 :: (.pointer (some ⟨R, 0, none⟩) : Value) :: x16 :: x17 :: x18 :: (.slice (some ⟨G, 0, none⟩) 1 1 : Value) :: x20 :: x21 :: x22 :: x23 :: x24 :: x25 :: x26 :: x27 :: x28 :: x29 :: x30 :: x31 :: x32 :: x33 :: x34 :: x35 :: x36 :: x37 :: x38 :: x39 :: x40 :: x41 :: x42 :: x43 :: x44 :: x45 :: x46 :: x47 :: x48 :: x49 :: x50 :: x51 :: x52 :: x53 :: x54 :: x55 :: x56 :: x57 :: x58 :: x59 :: x60 :: x61 :: x62 :: x63 :: x64 :: x65 :: x66 :: x67 :: x68 :: x69 :: x70 :: x71 :: x72 :: x73 :: x74 :: x75 :: x76 :: x77 :: x78 :: x79 :: x80 :: x81 :: x82 :: x83 :: x84 :: x85 :: x86 :: x87 :: x88 :: x89 :: x90 :: x91 :: x92 :: x93 :: x94 :: x95 :: x96 :: x97 :: x98 :: x99 :: x100 :: x101 :: x102 :: x103 :: x104 :: x105 :: x106 :: x107 :: []), []⟩ V := by
  have k0 := HP.out.1.cell (j := 0) rfl
  have k1 := HP.out.1.cell (j := 1) rfl
  have k2 := HP.out.1.cell (j := 2) rfl
  have k3 := HP.out.1.cell (j := 3) rfl
  conv => arg 2; whnf
  go_wp2_with (go_at_call 8; refine (HSN.out _ (rs_one HP.out.2.1)).mono ?_; rintro r w1 ⟨rfl, hB⟩; have P1 := hide' (HP.out.step hB); clear hB)
  go_ret
  exact ⟨rfl, P1.out.2.2.1.alloc P1.out.2.2.1.size _⟩
set_option maxRecDepth 100000 in
set_option maxHeartbeats 8000000 in
theorem stars_j0 (n d sn PB : ByteArray) (t : Int) (pa : Option Addr) (ca : Nat) (ah : List ByteArray) (m c s R G : Nat) (w V : World) (HP : Hid (Sp w V R G #[.int .i64 256, .int .i64 (m : Int), .int .i64 (c : Int), .int .i64 (s : Int)] #[.string sn, .int .i64 t, .int .i64 1, .int .i64 60, .string d])) (D fu : ByteArray) (er : Int)
    (HST : Hid (StrsAt w pa ah)) (HNO : Hid (pa = none → ca = 0)) (HAL : Hid (ah.length ≤ 1048576)) (HLL : Hid ((labs n).length ≤ 254))
    (HSG : Hid (∀ W : World, RsAt W (some ⟨G, 0, none⟩) [⟨sn, t, 1, 60, d⟩] → Calls Tryz.prog 8 #[.agg #[.int .i64 256, .int .i64 (m : Int), .int .i64 (c : Int), .int .i64 (s : Int)], .string n, .slice (some ⟨G, 0, none⟩) 1 1, .int .i64 0, .int .i64 9] W fun r w' => r = .returned (.tuple #[.agg #[.string sn, .int .i64 46, .int .i64 1, .int .i64 60, .string D], .int .i64 0]) ∧ Below W.heap.size W w'))
    (HLB : Hid (∀ W : World, Calls Tryz.prog 18 #[.string n] W fun e W' => ∃ p c, e = .returned (.slice p (labs n).length c) ∧ StrsAt W' p (labs n) ∧ (p = none → c = 0) ∧ Below W.heap.size W W'))
    (HJN : Hid (∀ (W : World) (p : Option Addr) (c : Nat), StrsAt W p (ah ++ labs n) → Calls Tryz.prog 17 #[.slice p (ah.length + (labs n).length) c] W fun r w' => r = .returned (.tuple #[.string fu, .int .i64 er]) ∧ Below W.heap.size W w'))
    (HPU : Hid (∀ W : World, Calls Tryz.prog 15 #[.agg #[.int .i64 256, .int .i64 (m : Int), .int .i64 (c : Int), .int .i64 (s : Int)]] W fun r w' => r = .returned (.string PB) ∧ Below W.heap.size W w'))
    (HVT : Hid (∀ W : World, RsAt W (some ⟨G, 0, none⟩) [⟨sn, t, 1, 60, d⟩] → Calls Tryz.prog 11 #[.slice (some ⟨G, 0, none⟩) 1 1, .agg #[.string sn, .int .i64 46, .int .i64 1, .int .i64 60, .string D], .string n, .string PB, .int .i64 10] W fun r w' => r = .returned (.int .i64 25) ∧ Below W.heap.size W w'))
    (HV9 : Hid (∀ W : World, RsAt W (some ⟨G, 0, none⟩) [⟨sn, t, 1, 60, d⟩] → Calls Tryz.prog 11 #[.slice (some ⟨G, 0, none⟩) 1 1, .agg #[.string sn, .int .i64 46, .int .i64 1, .int .i64 60, .string D], .string n, .string PB, .int .i64 9] W fun r w' => r = .returned (.int .i64 0) ∧ Below W.heap.size W w')) (her : ¬ er = 0) (x0 x1 x2 x5 x6 x7 x8 x9 x10 x11 x12 x13 x14 x16 x17 x18 x20 x21 x22 x23 x24 x25 x26 x27 x28 x29 x30 x31 x32 x33 x34 x35 x36 x37 x38 x39 x40 x41 x42 x43 x44 x45 x46 x47 x48 x49 x50 x51 x52 x53 x54 x55 x56 x57 x58 x59 x60 x61 x62 x63 x64 x65 x66 x67 x68 x69 x70 x71 x72 x73 x74 x75 x76 x77 x78 x79 x80 x81 x82 x83 x84 x85 x86 x87 x88 x89 x90 x91 x92 x93 x94 x95 x96 x97 x98 x99 x100 x101 x102 x103 x104 x105 x106 x107 : Value) :
    Code.wp Tryz.prog (((Tryz.f6.body.map (tailsS 7)).getD []).getD 0 .skip) (bodyPost Tryz.prog Tryz.f6 fun r w' => r = .returned (.bool true) ∧ Below w.heap.size w w') ⟨List.toArray (x0 :: x1 :: x2 :: (.string n : Value) :: (.slice pa ah.length ca : Value) :: x5 :: x6 :: x7 :: x8 :: x9 :: x10 :: x11 :: x12 :: x13 :: x14 :: (.pointer (some ⟨R, 0, none⟩) : Value) :: x16 :: x17 :: x18 :: (.slice (some ⟨G, 0, none⟩) 1 1 : Value) :: x20 :: x21 :: x22 :: x23 :: x24 :: x25 :: x26 :: x27 :: x28 :: x29 :: x30 :: x31 :: x32 :: x33 :: x34 :: x35 :: x36 :: x37 :: x38 :: x39 :: x40 :: x41 :: x42 :: x43 :: x44 :: x45 :: x46 :: x47 :: x48 :: x49 :: x50 :: x51 :: x52 :: x53 :: x54 :: x55 :: x56 :: x57 :: x58 :: x59 :: x60 :: x61 :: x62 :: x63 :: x64 :: x65 :: x66 :: x67 :: x68 :: x69 :: x70 :: x71 :: x72 :: x73 :: x74 :: x75 :: x76 :: x77 :: x78 :: x79 :: x80 :: x81 :: x82 :: x83 :: x84 :: x85 :: x86 :: x87 :: x88 :: x89 :: x90 :: x91 :: x92 :: x93 :: x94 :: x95 :: x96 :: x97 :: x98 :: x99 :: x100 :: x101 :: x102 :: x103 :: x104 :: x105 :: x106 :: x107 :: []), []⟩ V := by
  have k0 := HP.out.1.cell (j := 0) rfl
  have k1 := HP.out.1.cell (j := 1) rfl
  have k2 := HP.out.1.cell (j := 2) rfl
  have k3 := HP.out.1.cell (j := 3) rfl
  conv => arg 2; whnf
  go_upto_region 11 with (go_at_call 8; refine (HSG.out _ (rs_one HP.out.2.1)).mono ?_; rintro r w1 ⟨rfl, hB⟩; have P1 := hide' (HP.out.step hB); clear hB k0 k1 k2 k3)
  rename_i KK hKK
  have HKK := hide' hKK
  clear hKK
  obtain ⟨S, hS⟩ : ∃ S, w1.heap.size = S := ⟨_, rfl⟩
  obtain ⟨wB, hwB⟩ : ∃ wB, w1.alloc (.cells #[.string sn, .int .i64 46, .int .i64 1, .int .i64 60, .string D] 27) = wB := ⟨_, rfl⟩
  have Q0 : Hid (Sq w wB R G S #[.int .i64 256, .int .i64 (m : Int), .int .i64 (c : Int), .int .i64 (s : Int)] #[.string sn, .int .i64 t, .int .i64 1, .int .i64 60, .string d] #[.string sn, .int .i64 46, .int .i64 1, .int .i64 60, .string D]) := by rw [← hwB, ← hS]; exact Sq.start P1.out _
  simp only [hwB, hS]
  have hst : StrsAt wB pa ah := HST.out.below (Q0.out.1.2.2.1)
  have hal := HAL.out
  have T1 : Hid True := trivial
  clear hwB hS P1 HSG HST
  go_wp2_with (first
    | (at_builtin; have _ := T1; clear T1; refine wpList_append_strs rfl _ _ rfl wB.heap.size _ 0 [] rfl (World.ownsRow_nil _ _ _ _) pa ah ca rfl hst HNO.out (by omega) (Nat.le_refl _) ?_; intro v5 w5 hown5 hg5; have hB5 : Below wB.heap.size wB w5 := (Below.refl _ _).grown hg5 (Nat.le_refl _) (fun k e => ownBlock_le (World.ownsRow_nil wB wB.heap.size 9 1) e); have HO5 := hide' hown5; have HB5 := hide' hB5; clear hst hown5 hg5 hB5)
    | (go_at_call 18; refine (HLB.out _).mono ?_; rintro r w6 ⟨p6, c6, rfl, hs6, hn6, hB⟩; have HO6 := hide' (ownsRow_below HO5.out hB); have HB6 := hide' (bstep HB5.out hB HB5.out.size); have HN6 := hide' hn6; clear hB hn6)
    | (at_builtin; refine wpList_append_strs rfl _ _ rfl wB.heap.size v5 _ _ rfl HO6.out p6 (labs n) c6 rfl hs6 HN6.out (by have := HLL.out; omega) HB6.out.size ?_; intro v7 w7 hown7 hg7; have HB7 := hide' (HB6.out.grown hg7 HB6.out.size (fun k e => ownBlock_le HO6.out e)); have hst7 : Strs w7 v7 (ah ++ labs n) := Strs.of_owns (base := wB.heap.size) (by simpa using hown7); obtain ⟨p7, c7, rfl, hs7⟩ := hst7; have HS7 := hide' hs7; clear hs6 hown7 hg7 hs7)
    | (go_at_call 17; refine (HJN.out _ _ _ HS7.out).mono ?_; rintro r w8 ⟨rfl, hB⟩; have Q8 := hide' ((Q0.out.step HB7.out).step hB); clear hB HS7 HB7))
  all_goals (refine HKK.out _ _ ?_)
  all_goals (clear HKK HO5 HO6 HB5 HB6 HN6 Q0)
  all_goals (have s0 := Q8.out.2.1.cell (j := 0) rfl; have s1 := Q8.out.2.1.cell (j := 1) rfl; have s2 := Q8.out.2.1.cell (j := 2) rfl; have s3 := Q8.out.2.1.cell (j := 3) rfl; have s4 := Q8.out.2.1.cell (j := 4) rfl; have k0 := Q8.out.1.1.cell (j := 0) rfl; have k1 := Q8.out.1.1.cell (j := 1) rfl; have k2 := Q8.out.1.1.cell (j := 2) rfl; have k3 := Q8.out.1.1.cell (j := 3) rfl)
  go_wp2_with fail
  have QF : Hid (∀ V : World, Sq w V R G S #[.int .i64 256, .int .i64 (m : Int), .int .i64 (c : Int), .int .i64 (s : Int)] #[.string sn, .int .i64 t, .int .i64 1, .int .i64 60, .string d] #[.string sn, .int .i64 46, .int .i64 1, .int .i64 60, .string D] → V.cell? ⟨S, 0, none⟩ = some (.string sn) ∧ V.cell? ⟨S, 1, none⟩ = some (.int .i64 46) ∧ V.cell? ⟨S, 2, none⟩ = some (.int .i64 1) ∧ V.cell? ⟨S, 3, none⟩ = some (.int .i64 60) ∧ V.cell? ⟨S, 4, none⟩ = some (.string D) ∧ V.cell? ⟨R, 0, none⟩ = some (.int .i64 256) ∧ V.cell? ⟨R, 1, none⟩ = some (.int .i64 (m : Int)) ∧ V.cell? ⟨R, 2, none⟩ = some (.int .i64 (c : Int)) ∧ V.cell? ⟨R, 3, none⟩ = some (.int .i64 (s : Int))) := fun V h => ⟨h.2.1.cell rfl, h.2.1.cell rfl, h.2.1.cell rfl, h.2.1.cell rfl, h.2.1.cell rfl, h.1.1.cell rfl, h.1.1.cell rfl, h.1.1.cell rfl, h.1.1.cell rfl⟩
  refine wp_region_held_drew (S := fun V => V.cell? ⟨S, 0, none⟩ = some (.string sn) ∧ V.cell? ⟨S, 1, none⟩ = some (.int .i64 46) ∧ V.cell? ⟨S, 2, none⟩ = some (.int .i64 1) ∧ V.cell? ⟨S, 3, none⟩ = some (.int .i64 60) ∧ V.cell? ⟨S, 4, none⟩ = some (.string D) ∧ V.cell? ⟨R, 0, none⟩ = some (.int .i64 256) ∧ V.cell? ⟨R, 1, none⟩ = some (.int .i64 (m : Int)) ∧ V.cell? ⟨R, 2, none⟩ = some (.int .i64 (c : Int)) ∧ V.cell? ⟨R, 3, none⟩ = some (.int .i64 (s : Int))) (by kernel_rfl) ?_ (fun hHeld => ?_)
  · (try dsimp only); go_keep
  refine takeD 0 (some 72) (.slice (some ⟨G, 0, none⟩) 1 1) rfl rfl (by kernel_rfl) (by kernel_rfl) (by kernel_rfl) (fun _ _ _ h => h) (Or.inl ⟨by rfl, ?_⟩) (by assumption) ?_
  · intro w hSw; (try dsimp only at hSw); go_simp <;> (intros; omega)
  simp only [Act.put, List.setIfInBounds_toArray, List.set_cons_zero, List.set_cons_succ]
  refine takeD 1 (some 73) (.agg #[.string sn, .int .i64 46, .int .i64 1, .int .i64 60, .string D]) rfl rfl (by kernel_rfl) (by kernel_rfl) (by kernel_rfl) (fun _ _ _ h => h) (Or.inl ⟨by rfl, ?_⟩) (by assumption) ?_
  · intro w hSw; (try dsimp only at hSw); go_simp <;> (intros; omega)
  simp only [Act.put, List.setIfInBounds_toArray, List.set_cons_zero, List.set_cons_succ]
  refine takeD 2 (some 74) (.string n) rfl rfl (by kernel_rfl) (by kernel_rfl) (by kernel_rfl) (fun _ _ _ h => h) (Or.inl ⟨by rfl, ?_⟩) (by assumption) ?_
  · intro w hSw; (try dsimp only at hSw); go_simp <;> (intros; omega)
  simp only [Act.put, List.setIfInBounds_toArray, List.set_cons_zero, List.set_cons_succ]
  refine takeD 3 (some 75) (.agg #[.int .i64 256, .int .i64 (m : Int), .int .i64 (c : Int), .int .i64 (s : Int)]) rfl rfl (by kernel_rfl) (by kernel_rfl) (by kernel_rfl) (fun _ _ _ h => h) (Or.inl ⟨by rfl, ?_⟩) (by assumption) ?_
  · intro w hSw; (try dsimp only at hSw); go_simp <;> (intros; omega)
  simp only [Act.put, List.setIfInBounds_toArray, List.set_cons_zero, List.set_cons_succ]
  refine wpAnyH_ready (rs := [4]) (by kernel_rfl) (by simp) ?_
  refine AllReadyH.cons rfl (fun K hK => ?_) AllReadyH.nil
  go_simp
  go_at_call 15; refine (HPU.out _).mono ?_; rintro r w9 ⟨rfl, hB⟩; have Q9 := hide' (show Sq w w9 R G S #[.int .i64 256, .int .i64 (m : Int), .int .i64 (c : Int), .int .i64 (s : Int)] #[.string sn, .int .i64 t, .int .i64 1, .int .i64 60, .string d] #[.string sn, .int .i64 46, .int .i64 1, .int .i64 60, .string D] by first | exact Q8.out.step hB | exact Q8.out.drew.step hB); clear hB
  go_wp2_with fail
  refine hK.out _ _ (QF.out _ Q9.out) (fun hHeld => ?_)
  clear hK K
  try simp only [Act.put, List.setIfInBounds_toArray, List.set_cons_zero, List.set_cons_succ]
  refine wpAnyH_ready (rs := [5]) (by kernel_rfl) (by simp) ?_
  refine AllReadyH.cons rfl (fun K hK => ?_) AllReadyH.nil
  go_simp
  go_at_call 11; refine (HV9.out _ (show RsAt _ _ _ by first | exact rs_one Q9.out.1.2.1 | exact rs_one Q9.out.drew.1.2.1)).mono ?_; rintro r wa ⟨rfl, hB⟩; have Qa := hide' (show Sq w wa R G S #[.int .i64 256, .int .i64 (m : Int), .int .i64 (c : Int), .int .i64 (s : Int)] #[.string sn, .int .i64 t, .int .i64 1, .int .i64 60, .string d] #[.string sn, .int .i64 46, .int .i64 1, .int .i64 60, .string D] by first | exact Q9.out.step hB | exact Q9.out.drew.step hB); clear hB
  go_wp2_with fail
  refine hK.out _ _ (QF.out _ Qa.out) (fun hHeld => ?_)
  clear hK K
  try simp only [Act.put, List.setIfInBounds_toArray, List.set_cons_zero, List.set_cons_succ]
  refine takeD 6 (some 78) (.bool true) rfl rfl (by kernel_rfl) (by kernel_rfl) (by kernel_rfl) (fun _ _ _ h => h) (Or.inl ⟨by rfl, ?_⟩) (by assumption) ?_
  · intro w hSw; (try dsimp only at hSw); go_simp <;> (intros; omega)
  simp only [Act.put, List.setIfInBounds_toArray, List.set_cons_zero, List.set_cons_succ]
  refine takeD 7 (some 79) (.bool true) rfl rfl (by kernel_rfl) (by kernel_rfl) (by kernel_rfl) (fun _ _ _ h => h) (Or.inl ⟨by rfl, ?_⟩) (by assumption) ?_
  · intro w hSw; (try dsimp only at hSw); go_simp <;> (intros; omega)
  simp only [Act.put, List.setIfInBounds_toArray, List.set_cons_zero, List.set_cons_succ]
  refine takeD 8 (some 80) (.slice (some ⟨G, 0, none⟩) 1 1) rfl rfl (by kernel_rfl) (by kernel_rfl) (by kernel_rfl) (fun _ _ _ h => h) (Or.inl ⟨by rfl, ?_⟩) (by assumption) ?_
  · intro w hSw; (try dsimp only at hSw); go_simp <;> (intros; omega)
  simp only [Act.put, List.setIfInBounds_toArray, List.set_cons_zero, List.set_cons_succ]
  refine takeD 9 (some 81) (.agg #[.string sn, .int .i64 46, .int .i64 1, .int .i64 60, .string D]) rfl rfl (by kernel_rfl) (by kernel_rfl) (by kernel_rfl) (fun _ _ _ h => h) (Or.inl ⟨by rfl, ?_⟩) (by assumption) ?_
  · intro w hSw; (try dsimp only at hSw); go_simp <;> (intros; omega)
  simp only [Act.put, List.setIfInBounds_toArray, List.set_cons_zero, List.set_cons_succ]
  refine takeD 10 (some 82) (.string n) rfl rfl (by kernel_rfl) (by kernel_rfl) (by kernel_rfl) (fun _ _ _ h => h) (Or.inl ⟨by rfl, ?_⟩) (by assumption) ?_
  · intro w hSw; (try dsimp only at hSw); go_simp <;> (intros; omega)
  simp only [Act.put, List.setIfInBounds_toArray, List.set_cons_zero, List.set_cons_succ]
  refine takeD 11 (some 83) (.agg #[.int .i64 256, .int .i64 (m : Int), .int .i64 (c : Int), .int .i64 (s : Int)]) rfl rfl (by kernel_rfl) (by kernel_rfl) (by kernel_rfl) (fun _ _ _ h => h) (Or.inl ⟨by rfl, ?_⟩) (by assumption) ?_
  · intro w hSw; (try dsimp only at hSw); go_simp <;> (intros; omega)
  simp only [Act.put, List.setIfInBounds_toArray, List.set_cons_zero, List.set_cons_succ]
  refine wpAnyH_ready (rs := [12]) (by kernel_rfl) (by simp) ?_
  refine AllReadyH.cons rfl (fun K hK => ?_) AllReadyH.nil
  go_simp
  go_at_call 15; refine (HPU.out _).mono ?_; rintro r wb ⟨rfl, hB⟩; have Qb := hide' (show Sq w wb R G S #[.int .i64 256, .int .i64 (m : Int), .int .i64 (c : Int), .int .i64 (s : Int)] #[.string sn, .int .i64 t, .int .i64 1, .int .i64 60, .string d] #[.string sn, .int .i64 46, .int .i64 1, .int .i64 60, .string D] by first | exact Qa.out.step hB | exact Qa.out.drew.step hB); clear hB
  go_wp2_with fail
  refine hK.out _ _ (QF.out _ Qb.out) (fun hHeld => ?_)
  clear hK K
  try simp only [Act.put, List.setIfInBounds_toArray, List.set_cons_zero, List.set_cons_succ]
  refine wpAnyH_ready (rs := [13]) (by kernel_rfl) (by simp) ?_
  refine AllReadyH.cons rfl (fun K hK => ?_) AllReadyH.nil
  go_simp
  go_at_call 11; refine (HVT.out _ (show RsAt _ _ _ by first | exact rs_one Qb.out.1.2.1 | exact rs_one Qb.out.drew.1.2.1)).mono ?_; rintro r wc ⟨rfl, hB⟩; have Qc := hide' (show Sq w wc R G S #[.int .i64 256, .int .i64 (m : Int), .int .i64 (c : Int), .int .i64 (s : Int)] #[.string sn, .int .i64 t, .int .i64 1, .int .i64 60, .string d] #[.string sn, .int .i64 46, .int .i64 1, .int .i64 60, .string D] by first | exact Qb.out.step hB | exact Qb.out.drew.step hB); clear hB
  go_wp2_with fail
  refine hK.out _ _ (QF.out _ Qc.out) (fun hHeld => ?_)
  clear hK K
  try simp only [Act.put, List.setIfInBounds_toArray, List.set_cons_zero, List.set_cons_succ]
  refine takeD 14 (some 86) (.bool true) rfl rfl (by kernel_rfl) (by kernel_rfl) (by kernel_rfl) (fun _ _ _ h => h) (Or.inl ⟨by rfl, ?_⟩) (by assumption) ?_
  · intro w hSw; (try dsimp only at hSw); go_simp <;> (intros; omega)
  simp only [Act.put, List.setIfInBounds_toArray, List.set_cons_zero, List.set_cons_succ]
  refine takeD 15 (some 87) (.bool true) rfl rfl (by kernel_rfl) (by kernel_rfl) (by kernel_rfl) (fun _ _ _ h => h) (Or.inl ⟨by rfl, ?_⟩) (by assumption) ?_
  · intro w hSw; (try dsimp only at hSw); go_simp <;> (intros; omega)
  simp only [Act.put, List.setIfInBounds_toArray, List.set_cons_zero, List.set_cons_succ]
  refine takeD 16 (some 14) (.bool true) rfl rfl (by kernel_rfl) (by kernel_rfl) (by kernel_rfl) (fun _ _ _ h => h) (Or.inl ⟨by rfl, ?_⟩) (by assumption) ?_
  · intro w hSw; (try dsimp only at hSw); go_simp <;> (intros; omega)
  simp only [Act.put, List.setIfInBounds_toArray, List.set_cons_zero, List.set_cons_succ]
  refine wpAnyH_done (by kernel_rfl) ?_ _
  go_wp2_with fail
  go_ret
  exact ⟨rfl, by first | exact Qc.out.1.2.2.1 | exact Qc.out.drew.1.2.2.1⟩
set_option maxRecDepth 100000 in
set_option maxHeartbeats 8000000 in
theorem stars_j0b (n d sn PB : ByteArray) (t : Int) (pa : Option Addr) (ca : Nat) (ah : List ByteArray) (m c s R G : Nat) (w V : World) (HP : Hid (Sp w V R G #[.int .i64 256, .int .i64 (m : Int), .int .i64 (c : Int), .int .i64 (s : Int)] #[.string sn, .int .i64 t, .int .i64 1, .int .i64 60, .string d])) (D fu : ByteArray) (er : Int)
    (HST : Hid (StrsAt w pa ah)) (HNO : Hid (pa = none → ca = 0)) (HAL : Hid (ah.length ≤ 1048576)) (HLL : Hid ((labs n).length ≤ 254))
    (HSG : Hid (∀ W : World, RsAt W (some ⟨G, 0, none⟩) [⟨sn, t, 1, 60, d⟩] → Calls Tryz.prog 8 #[.agg #[.int .i64 256, .int .i64 (m : Int), .int .i64 (c : Int), .int .i64 (s : Int)], .string n, .slice (some ⟨G, 0, none⟩) 1 1, .int .i64 0, .int .i64 9] W fun r w' => r = .returned (.tuple #[.agg #[.string sn, .int .i64 46, .int .i64 1, .int .i64 60, .string D], .int .i64 0]) ∧ Below W.heap.size W w'))
    (HLB : Hid (∀ W : World, Calls Tryz.prog 18 #[.string n] W fun e W' => ∃ p c, e = .returned (.slice p (labs n).length c) ∧ StrsAt W' p (labs n) ∧ (p = none → c = 0) ∧ Below W.heap.size W W'))
    (HJN : Hid (∀ (W : World) (p : Option Addr) (c : Nat), StrsAt W p (ah ++ labs n) → Calls Tryz.prog 17 #[.slice p (ah.length + (labs n).length) c] W fun r w' => r = .returned (.tuple #[.string fu, .int .i64 er]) ∧ Below W.heap.size W w'))
    (HPU : Hid (∀ W : World, Calls Tryz.prog 15 #[.agg #[.int .i64 256, .int .i64 (m : Int), .int .i64 (c : Int), .int .i64 (s : Int)]] W fun r w' => r = .returned (.string PB) ∧ Below W.heap.size W w'))
    (HVT : Hid (∀ W : World, RsAt W (some ⟨G, 0, none⟩) [⟨sn, t, 1, 60, d⟩] → Calls Tryz.prog 11 #[.slice (some ⟨G, 0, none⟩) 1 1, .agg #[.string sn, .int .i64 46, .int .i64 1, .int .i64 60, .string D], .string n, .string PB, .int .i64 10] W fun r w' => r = .returned (.int .i64 25) ∧ Below W.heap.size W w'))
    (HV9 : Hid (∀ W : World, RsAt W (some ⟨G, 0, none⟩) [⟨sn, t, 1, 60, d⟩] → Calls Tryz.prog 11 #[.slice (some ⟨G, 0, none⟩) 1 1, .agg #[.string sn, .int .i64 46, .int .i64 1, .int .i64 60, .string D], .string n, .string PB, .int .i64 9] W fun r w' => r = .returned (.int .i64 0) ∧ Below W.heap.size W w')) (her : er = 0) (hah : (ah.length : Int) = 0) (x0 x1 x2 x5 x6 x7 x8 x9 x10 x11 x12 x13 x14 x16 x17 x18 x20 x21 x22 x23 x24 x25 x26 x27 x28 x29 x30 x31 x32 x33 x34 x35 x36 x37 x38 x39 x40 x41 x42 x43 x44 x45 x46 x47 x48 x49 x50 x51 x52 x53 x54 x55 x56 x57 x58 x59 x60 x61 x62 x63 x64 x65 x66 x67 x68 x69 x70 x71 x72 x73 x74 x75 x76 x77 x78 x79 x80 x81 x82 x83 x84 x85 x86 x87 x88 x89 x90 x91 x92 x93 x94 x95 x96 x97 x98 x99 x100 x101 x102 x103 x104 x105 x106 x107 : Value) :
    Code.wp Tryz.prog (((Tryz.f6.body.map (tailsS 7)).getD []).getD 0 .skip) (bodyPost Tryz.prog Tryz.f6 fun r w' => r = .returned (.bool true) ∧ Below w.heap.size w w') ⟨List.toArray (x0 :: x1 :: x2 :: (.string n : Value) :: (.slice pa ah.length ca : Value) :: x5 :: x6 :: x7 :: x8 :: x9 :: x10 :: x11 :: x12 :: x13 :: x14 :: (.pointer (some ⟨R, 0, none⟩) : Value) :: x16 :: x17 :: x18 :: (.slice (some ⟨G, 0, none⟩) 1 1 : Value) :: x20 :: x21 :: x22 :: x23 :: x24 :: x25 :: x26 :: x27 :: x28 :: x29 :: x30 :: x31 :: x32 :: x33 :: x34 :: x35 :: x36 :: x37 :: x38 :: x39 :: x40 :: x41 :: x42 :: x43 :: x44 :: x45 :: x46 :: x47 :: x48 :: x49 :: x50 :: x51 :: x52 :: x53 :: x54 :: x55 :: x56 :: x57 :: x58 :: x59 :: x60 :: x61 :: x62 :: x63 :: x64 :: x65 :: x66 :: x67 :: x68 :: x69 :: x70 :: x71 :: x72 :: x73 :: x74 :: x75 :: x76 :: x77 :: x78 :: x79 :: x80 :: x81 :: x82 :: x83 :: x84 :: x85 :: x86 :: x87 :: x88 :: x89 :: x90 :: x91 :: x92 :: x93 :: x94 :: x95 :: x96 :: x97 :: x98 :: x99 :: x100 :: x101 :: x102 :: x103 :: x104 :: x105 :: x106 :: x107 :: []), []⟩ V := by
  subst her
  have k0 := HP.out.1.cell (j := 0) rfl
  have k1 := HP.out.1.cell (j := 1) rfl
  have k2 := HP.out.1.cell (j := 2) rfl
  have k3 := HP.out.1.cell (j := 3) rfl
  conv => arg 2; whnf
  go_upto_region 11 with (go_at_call 8; refine (HSG.out _ (rs_one HP.out.2.1)).mono ?_; rintro r w1 ⟨rfl, hB⟩; have P1 := hide' (HP.out.step hB); clear hB k0 k1 k2 k3)
  rename_i KK hKK
  have HKK := hide' hKK
  clear hKK
  obtain ⟨S, hS⟩ : ∃ S, w1.heap.size = S := ⟨_, rfl⟩
  obtain ⟨wB, hwB⟩ : ∃ wB, w1.alloc (.cells #[.string sn, .int .i64 46, .int .i64 1, .int .i64 60, .string D] 27) = wB := ⟨_, rfl⟩
  have Q0 : Hid (Sq w wB R G S #[.int .i64 256, .int .i64 (m : Int), .int .i64 (c : Int), .int .i64 (s : Int)] #[.string sn, .int .i64 t, .int .i64 1, .int .i64 60, .string d] #[.string sn, .int .i64 46, .int .i64 1, .int .i64 60, .string D]) := by rw [← hwB, ← hS]; exact Sq.start P1.out _
  simp only [hwB, hS]
  have hst : StrsAt wB pa ah := HST.out.below (Q0.out.1.2.2.1)
  have hal := HAL.out
  have T1 : Hid True := trivial
  clear hwB hS P1 HSG HST
  go_wp2_with (first
    | (at_builtin; have _ := T1; clear T1; refine wpList_append_strs rfl _ _ rfl wB.heap.size _ 0 [] rfl (World.ownsRow_nil _ _ _ _) pa ah ca rfl hst HNO.out (by omega) (Nat.le_refl _) ?_; intro v5 w5 hown5 hg5; have hB5 : Below wB.heap.size wB w5 := (Below.refl _ _).grown hg5 (Nat.le_refl _) (fun k e => ownBlock_le (World.ownsRow_nil wB wB.heap.size 9 1) e); have HO5 := hide' hown5; have HB5 := hide' hB5; clear hst hown5 hg5 hB5)
    | (go_at_call 18; refine (HLB.out _).mono ?_; rintro r w6 ⟨p6, c6, rfl, hs6, hn6, hB⟩; have HO6 := hide' (ownsRow_below HO5.out hB); have HB6 := hide' (bstep HB5.out hB HB5.out.size); have HN6 := hide' hn6; clear hB hn6)
    | (at_builtin; refine wpList_append_strs rfl _ _ rfl wB.heap.size v5 _ _ rfl HO6.out p6 (labs n) c6 rfl hs6 HN6.out (by have := HLL.out; omega) HB6.out.size ?_; intro v7 w7 hown7 hg7; have HB7 := hide' (HB6.out.grown hg7 HB6.out.size (fun k e => ownBlock_le HO6.out e)); have hst7 : Strs w7 v7 (ah ++ labs n) := Strs.of_owns (base := wB.heap.size) (by simpa using hown7); obtain ⟨p7, c7, rfl, hs7⟩ := hst7; have HS7 := hide' hs7; clear hs6 hown7 hg7 hs7)
    | (go_at_call 17; refine (HJN.out _ _ _ HS7.out).mono ?_; rintro r w8 ⟨rfl, hB⟩; have Q8 := hide' ((Q0.out.step HB7.out).step hB); clear hB HS7 HB7))
  all_goals (refine HKK.out _ _ ?_)
  all_goals (clear HKK HO5 HO6 HB5 HB6 HN6 Q0)
  all_goals (have s0 := Q8.out.2.1.cell (j := 0) rfl; have s1 := Q8.out.2.1.cell (j := 1) rfl; have s2 := Q8.out.2.1.cell (j := 2) rfl; have s3 := Q8.out.2.1.cell (j := 3) rfl; have s4 := Q8.out.2.1.cell (j := 4) rfl; have k0 := Q8.out.1.1.cell (j := 0) rfl; have k1 := Q8.out.1.1.cell (j := 1) rfl; have k2 := Q8.out.1.1.cell (j := 2) rfl; have k3 := Q8.out.1.1.cell (j := 3) rfl)
  go_wp2_with fail
  have QF : Hid (∀ V : World, Sq w V R G S #[.int .i64 256, .int .i64 (m : Int), .int .i64 (c : Int), .int .i64 (s : Int)] #[.string sn, .int .i64 t, .int .i64 1, .int .i64 60, .string d] #[.string sn, .int .i64 46, .int .i64 1, .int .i64 60, .string D] → V.cell? ⟨S, 0, none⟩ = some (.string sn) ∧ V.cell? ⟨S, 1, none⟩ = some (.int .i64 46) ∧ V.cell? ⟨S, 2, none⟩ = some (.int .i64 1) ∧ V.cell? ⟨S, 3, none⟩ = some (.int .i64 60) ∧ V.cell? ⟨S, 4, none⟩ = some (.string D) ∧ V.cell? ⟨R, 0, none⟩ = some (.int .i64 256) ∧ V.cell? ⟨R, 1, none⟩ = some (.int .i64 (m : Int)) ∧ V.cell? ⟨R, 2, none⟩ = some (.int .i64 (c : Int)) ∧ V.cell? ⟨R, 3, none⟩ = some (.int .i64 (s : Int))) := fun V h => ⟨h.2.1.cell rfl, h.2.1.cell rfl, h.2.1.cell rfl, h.2.1.cell rfl, h.2.1.cell rfl, h.1.1.cell rfl, h.1.1.cell rfl, h.1.1.cell rfl, h.1.1.cell rfl⟩
  refine wp_region_held_drew (S := fun V => V.cell? ⟨S, 0, none⟩ = some (.string sn) ∧ V.cell? ⟨S, 1, none⟩ = some (.int .i64 46) ∧ V.cell? ⟨S, 2, none⟩ = some (.int .i64 1) ∧ V.cell? ⟨S, 3, none⟩ = some (.int .i64 60) ∧ V.cell? ⟨S, 4, none⟩ = some (.string D) ∧ V.cell? ⟨R, 0, none⟩ = some (.int .i64 256) ∧ V.cell? ⟨R, 1, none⟩ = some (.int .i64 (m : Int)) ∧ V.cell? ⟨R, 2, none⟩ = some (.int .i64 (c : Int)) ∧ V.cell? ⟨R, 3, none⟩ = some (.int .i64 (s : Int))) (by kernel_rfl) ?_ (fun hHeld => ?_)
  · (try dsimp only); go_keep
  refine takeD 0 (some 72) (.slice (some ⟨G, 0, none⟩) 1 1) rfl rfl (by kernel_rfl) (by kernel_rfl) (by kernel_rfl) (fun _ _ _ h => h) (Or.inl ⟨by rfl, ?_⟩) (by assumption) ?_
  · intro w hSw; (try dsimp only at hSw); go_simp <;> (intros; omega)
  simp only [Act.put, List.setIfInBounds_toArray, List.set_cons_zero, List.set_cons_succ]
  refine takeD 1 (some 73) (.agg #[.string sn, .int .i64 46, .int .i64 1, .int .i64 60, .string D]) rfl rfl (by kernel_rfl) (by kernel_rfl) (by kernel_rfl) (fun _ _ _ h => h) (Or.inl ⟨by rfl, ?_⟩) (by assumption) ?_
  · intro w hSw; (try dsimp only at hSw); go_simp <;> (intros; omega)
  simp only [Act.put, List.setIfInBounds_toArray, List.set_cons_zero, List.set_cons_succ]
  refine takeD 2 (some 74) (.string n) rfl rfl (by kernel_rfl) (by kernel_rfl) (by kernel_rfl) (fun _ _ _ h => h) (Or.inl ⟨by rfl, ?_⟩) (by assumption) ?_
  · intro w hSw; (try dsimp only at hSw); go_simp <;> (intros; omega)
  simp only [Act.put, List.setIfInBounds_toArray, List.set_cons_zero, List.set_cons_succ]
  refine takeD 3 (some 75) (.agg #[.int .i64 256, .int .i64 (m : Int), .int .i64 (c : Int), .int .i64 (s : Int)]) rfl rfl (by kernel_rfl) (by kernel_rfl) (by kernel_rfl) (fun _ _ _ h => h) (Or.inl ⟨by rfl, ?_⟩) (by assumption) ?_
  · intro w hSw; (try dsimp only at hSw); go_simp <;> (intros; omega)
  simp only [Act.put, List.setIfInBounds_toArray, List.set_cons_zero, List.set_cons_succ]
  refine wpAnyH_ready (rs := [4]) (by kernel_rfl) (by simp) ?_
  refine AllReadyH.cons rfl (fun K hK => ?_) AllReadyH.nil
  go_simp
  go_at_call 15; refine (HPU.out _).mono ?_; rintro r w9 ⟨rfl, hB⟩; have Q9 := hide' (show Sq w w9 R G S #[.int .i64 256, .int .i64 (m : Int), .int .i64 (c : Int), .int .i64 (s : Int)] #[.string sn, .int .i64 t, .int .i64 1, .int .i64 60, .string d] #[.string sn, .int .i64 46, .int .i64 1, .int .i64 60, .string D] by first | exact Q8.out.step hB | exact Q8.out.drew.step hB); clear hB
  go_wp2_with fail
  refine hK.out _ _ (QF.out _ Q9.out) (fun hHeld => ?_)
  clear hK K
  try simp only [Act.put, List.setIfInBounds_toArray, List.set_cons_zero, List.set_cons_succ]
  refine wpAnyH_ready (rs := [5]) (by kernel_rfl) (by simp) ?_
  refine AllReadyH.cons rfl (fun K hK => ?_) AllReadyH.nil
  go_simp
  go_at_call 11; refine (HV9.out _ (show RsAt _ _ _ by first | exact rs_one Q9.out.1.2.1 | exact rs_one Q9.out.drew.1.2.1)).mono ?_; rintro r wa ⟨rfl, hB⟩; have Qa := hide' (show Sq w wa R G S #[.int .i64 256, .int .i64 (m : Int), .int .i64 (c : Int), .int .i64 (s : Int)] #[.string sn, .int .i64 t, .int .i64 1, .int .i64 60, .string d] #[.string sn, .int .i64 46, .int .i64 1, .int .i64 60, .string D] by first | exact Q9.out.step hB | exact Q9.out.drew.step hB); clear hB
  go_wp2_with fail
  refine hK.out _ _ (QF.out _ Qa.out) (fun hHeld => ?_)
  clear hK K
  try simp only [Act.put, List.setIfInBounds_toArray, List.set_cons_zero, List.set_cons_succ]
  refine takeD 6 (some 78) (.bool true) rfl rfl (by kernel_rfl) (by kernel_rfl) (by kernel_rfl) (fun _ _ _ h => h) (Or.inl ⟨by rfl, ?_⟩) (by assumption) ?_
  · intro w hSw; (try dsimp only at hSw); go_simp <;> (intros; omega)
  simp only [Act.put, List.setIfInBounds_toArray, List.set_cons_zero, List.set_cons_succ]
  refine takeD 7 (some 79) (.bool true) rfl rfl (by kernel_rfl) (by kernel_rfl) (by kernel_rfl) (fun _ _ _ h => h) (Or.inl ⟨by rfl, ?_⟩) (by assumption) ?_
  · intro w hSw; (try dsimp only at hSw); go_simp <;> (intros; omega)
  simp only [Act.put, List.setIfInBounds_toArray, List.set_cons_zero, List.set_cons_succ]
  refine takeD 8 (some 80) (.slice (some ⟨G, 0, none⟩) 1 1) rfl rfl (by kernel_rfl) (by kernel_rfl) (by kernel_rfl) (fun _ _ _ h => h) (Or.inl ⟨by rfl, ?_⟩) (by assumption) ?_
  · intro w hSw; (try dsimp only at hSw); go_simp <;> (intros; omega)
  simp only [Act.put, List.setIfInBounds_toArray, List.set_cons_zero, List.set_cons_succ]
  refine takeD 9 (some 81) (.agg #[.string sn, .int .i64 46, .int .i64 1, .int .i64 60, .string D]) rfl rfl (by kernel_rfl) (by kernel_rfl) (by kernel_rfl) (fun _ _ _ h => h) (Or.inl ⟨by rfl, ?_⟩) (by assumption) ?_
  · intro w hSw; (try dsimp only at hSw); go_simp <;> (intros; omega)
  simp only [Act.put, List.setIfInBounds_toArray, List.set_cons_zero, List.set_cons_succ]
  refine takeD 10 (some 82) (.string n) rfl rfl (by kernel_rfl) (by kernel_rfl) (by kernel_rfl) (fun _ _ _ h => h) (Or.inl ⟨by rfl, ?_⟩) (by assumption) ?_
  · intro w hSw; (try dsimp only at hSw); go_simp <;> (intros; omega)
  simp only [Act.put, List.setIfInBounds_toArray, List.set_cons_zero, List.set_cons_succ]
  refine takeD 11 (some 83) (.agg #[.int .i64 256, .int .i64 (m : Int), .int .i64 (c : Int), .int .i64 (s : Int)]) rfl rfl (by kernel_rfl) (by kernel_rfl) (by kernel_rfl) (fun _ _ _ h => h) (Or.inl ⟨by rfl, ?_⟩) (by assumption) ?_
  · intro w hSw; (try dsimp only at hSw); go_simp <;> (intros; omega)
  simp only [Act.put, List.setIfInBounds_toArray, List.set_cons_zero, List.set_cons_succ]
  refine wpAnyH_ready (rs := [12]) (by kernel_rfl) (by simp) ?_
  refine AllReadyH.cons rfl (fun K hK => ?_) AllReadyH.nil
  go_simp
  go_at_call 15; refine (HPU.out _).mono ?_; rintro r wb ⟨rfl, hB⟩; have Qb := hide' (show Sq w wb R G S #[.int .i64 256, .int .i64 (m : Int), .int .i64 (c : Int), .int .i64 (s : Int)] #[.string sn, .int .i64 t, .int .i64 1, .int .i64 60, .string d] #[.string sn, .int .i64 46, .int .i64 1, .int .i64 60, .string D] by first | exact Qa.out.step hB | exact Qa.out.drew.step hB); clear hB
  go_wp2_with fail
  refine hK.out _ _ (QF.out _ Qb.out) (fun hHeld => ?_)
  clear hK K
  try simp only [Act.put, List.setIfInBounds_toArray, List.set_cons_zero, List.set_cons_succ]
  refine wpAnyH_ready (rs := [13]) (by kernel_rfl) (by simp) ?_
  refine AllReadyH.cons rfl (fun K hK => ?_) AllReadyH.nil
  go_simp
  go_at_call 11; refine (HVT.out _ (show RsAt _ _ _ by first | exact rs_one Qb.out.1.2.1 | exact rs_one Qb.out.drew.1.2.1)).mono ?_; rintro r wc ⟨rfl, hB⟩; have Qc := hide' (show Sq w wc R G S #[.int .i64 256, .int .i64 (m : Int), .int .i64 (c : Int), .int .i64 (s : Int)] #[.string sn, .int .i64 t, .int .i64 1, .int .i64 60, .string d] #[.string sn, .int .i64 46, .int .i64 1, .int .i64 60, .string D] by first | exact Qb.out.step hB | exact Qb.out.drew.step hB); clear hB
  go_wp2_with fail
  refine hK.out _ _ (QF.out _ Qc.out) (fun hHeld => ?_)
  clear hK K
  try simp only [Act.put, List.setIfInBounds_toArray, List.set_cons_zero, List.set_cons_succ]
  refine takeD 14 (some 86) (.bool true) rfl rfl (by kernel_rfl) (by kernel_rfl) (by kernel_rfl) (fun _ _ _ h => h) (Or.inl ⟨by rfl, ?_⟩) (by assumption) ?_
  · intro w hSw; (try dsimp only at hSw); go_simp <;> (intros; omega)
  simp only [Act.put, List.setIfInBounds_toArray, List.set_cons_zero, List.set_cons_succ]
  refine takeD 15 (some 87) (.bool true) rfl rfl (by kernel_rfl) (by kernel_rfl) (by kernel_rfl) (fun _ _ _ h => h) (Or.inl ⟨by rfl, ?_⟩) (by assumption) ?_
  · intro w hSw; (try dsimp only at hSw); go_simp <;> (intros; omega)
  simp only [Act.put, List.setIfInBounds_toArray, List.set_cons_zero, List.set_cons_succ]
  refine takeD 16 (some 14) (.bool true) rfl rfl (by kernel_rfl) (by kernel_rfl) (by kernel_rfl) (fun _ _ _ h => h) (Or.inl ⟨by rfl, ?_⟩) (by assumption) ?_
  · intro w hSw; (try dsimp only at hSw); go_simp <;> (intros; omega)
  simp only [Act.put, List.setIfInBounds_toArray, List.set_cons_zero, List.set_cons_succ]
  refine wpAnyH_done (by kernel_rfl) ?_ _
  go_wp2_with fail
  go_ret
  exact ⟨rfl, by first | exact Qc.out.1.2.2.1 | exact Qc.out.drew.1.2.2.1⟩
end Go.Proofs.YtennkhdhnbdbeaaGreat

/-
  SealStars: what stands behind the set. (The verifier's own text.)
-/
namespace Go.Proofs.YtennkhdhnbdbeaaGreat
set_option linter.unusedVariables false
set_option linter.unusedSimpArgs false
open Go.RowKit Go.Shelf Go.Sort Go.Proofs.YtennkhdhnbdbeaaGreat.Nm

theorem Sq.put {w wc : World} {R G S : Nat} {ky rc sg : Array Value} (h : Sq w wc R G S ky rc sg) (v : Value) : Sq w ((wc.setCell ⟨G, 0, none⟩ v).setCell ⟨S, 0, none⟩ v) R G S ky (rc.setIfInBounds 0 v) (sg.setIfInBounds 0 v) := by
  obtain ⟨⟨h1, h2, h3, h4, h5⟩, h6, h7⟩ := h
  refine ⟨⟨?_, ?_, ?_, h4, h5⟩, ?_, h7⟩
  · exact (h1.grown (grown_set wc G 0 v) (by intro e; injection e with e; omega)).grown (grown_set _ S 0 v) (by intro e; injection e with e; omega)
  · exact (h2.set 0 v).grown (grown_set _ S 0 v) (by intro e; injection e with e; omega)
  · exact (h3.setCell (p := ⟨G, 0, none⟩) (by show w.heap.size ≤ G; omega) v).setCell (p := ⟨S, 0, none⟩) (by show w.heap.size ≤ S; omega) v
  · exact (h6.grown (grown_set wc G 0 v) (by intro e; injection e with e; omega)).set 0 v
set_option maxRecDepth 100000 in
set_option maxHeartbeats 8000000 in
theorem stars_j1 (n d sn PB : ByteArray) (t : Int) (pa : Option Addr) (ca : Nat) (ah : List ByteArray) (m c s R G : Nat) (w V : World) (HP : Hid (Sp w V R G #[.int .i64 256, .int .i64 (m : Int), .int .i64 (c : Int), .int .i64 (s : Int)] #[.string sn, .int .i64 t, .int .i64 1, .int .i64 60, .string d])) (D fu : ByteArray) (er : Int)
    (HST : Hid (StrsAt w pa ah)) (HNO : Hid (pa = none → ca = 0)) (HAL : Hid (ah.length ≤ 1048576)) (HLL : Hid ((labs n).length ≤ 254))
    (HSG : Hid (∀ W : World, RsAt W (some ⟨G, 0, none⟩) [⟨sn, t, 1, 60, d⟩] → Calls Tryz.prog 8 #[.agg #[.int .i64 256, .int .i64 (m : Int), .int .i64 (c : Int), .int .i64 (s : Int)], .string n, .slice (some ⟨G, 0, none⟩) 1 1, .int .i64 0, .int .i64 9] W fun r w' => r = .returned (.tuple #[.agg #[.string sn, .int .i64 46, .int .i64 1, .int .i64 60, .string D], .int .i64 0]) ∧ Below W.heap.size W w'))
    (HLB : Hid (∀ W : World, Calls Tryz.prog 18 #[.string n] W fun e W' => ∃ p c, e = .returned (.slice p (labs n).length c) ∧ StrsAt W' p (labs n) ∧ (p = none → c = 0) ∧ Below W.heap.size W W'))
    (HJN : Hid (∀ (W : World) (p : Option Addr) (c : Nat), StrsAt W p (ah ++ labs n) → Calls Tryz.prog 17 #[.slice p (ah.length + (labs n).length) c] W fun r w' => r = .returned (.tuple #[.string fu, .int .i64 er]) ∧ Below W.heap.size W w'))
    (HPU : Hid (∀ W : World, Calls Tryz.prog 15 #[.agg #[.int .i64 256, .int .i64 (m : Int), .int .i64 (c : Int), .int .i64 (s : Int)]] W fun r w' => r = .returned (.string PB) ∧ Below W.heap.size W w'))
    (HVT : Hid (∀ W : World, RsAt W (some ⟨G, 0, none⟩) [⟨sn, t, 1, 60, d⟩] → Calls Tryz.prog 11 #[.slice (some ⟨G, 0, none⟩) 1 1, .agg #[.string sn, .int .i64 46, .int .i64 1, .int .i64 60, .string D], .string n, .string PB, .int .i64 10] W fun r w' => r = .returned (.int .i64 25) ∧ Below W.heap.size W w'))
    (HV2 : Hid (∀ W : World, RsAt W (some ⟨G, 0, none⟩) [⟨fu, t, 1, 60, d⟩] → Calls Tryz.prog 11 #[.slice (some ⟨G, 0, none⟩) 1 1, .agg #[.string fu, .int .i64 46, .int .i64 1, .int .i64 60, .string D], .string n, .string PB, .int .i64 9] W fun r w' => r = .returned (.int .i64 0) ∧ Below W.heap.size W w')) (her : er = 0) (hah : ¬ (ah.length : Int) = 0) (x0 x1 x2 x5 x6 x7 x8 x9 x10 x11 x12 x13 x14 x16 x17 x18 x20 x21 x22 x23 x24 x25 x26 x27 x28 x29 x30 x31 x32 x33 x34 x35 x36 x37 x38 x39 x40 x41 x42 x43 x44 x45 x46 x47 x48 x49 x50 x51 x52 x53 x54 x55 x56 x57 x58 x59 x60 x61 x62 x63 x64 x65 x66 x67 x68 x69 x70 x71 x72 x73 x74 x75 x76 x77 x78 x79 x80 x81 x82 x83 x84 x85 x86 x87 x88 x89 x90 x91 x92 x93 x94 x95 x96 x97 x98 x99 x100 x101 x102 x103 x104 x105 x106 x107 : Value) :
    Code.wp Tryz.prog (((Tryz.f6.body.map (tailsS 7)).getD []).getD 0 .skip) (bodyPost Tryz.prog Tryz.f6 fun r w' => r = .returned (.bool true) ∧ Below w.heap.size w w') ⟨List.toArray (x0 :: x1 :: x2 :: (.string n : Value) :: (.slice pa ah.length ca : Value) :: x5 :: x6 :: x7 :: x8 :: x9 :: x10 :: x11 :: x12 :: x13 :: x14 :: (.pointer (some ⟨R, 0, none⟩) : Value) :: x16 :: x17 :: x18 :: (.slice (some ⟨G, 0, none⟩) 1 1 : Value) :: x20 :: x21 :: x22 :: x23 :: x24 :: x25 :: x26 :: x27 :: x28 :: x29 :: x30 :: x31 :: x32 :: x33 :: x34 :: x35 :: x36 :: x37 :: x38 :: x39 :: x40 :: x41 :: x42 :: x43 :: x44 :: x45 :: x46 :: x47 :: x48 :: x49 :: x50 :: x51 :: x52 :: x53 :: x54 :: x55 :: x56 :: x57 :: x58 :: x59 :: x60 :: x61 :: x62 :: x63 :: x64 :: x65 :: x66 :: x67 :: x68 :: x69 :: x70 :: x71 :: x72 :: x73 :: x74 :: x75 :: x76 :: x77 :: x78 :: x79 :: x80 :: x81 :: x82 :: x83 :: x84 :: x85 :: x86 :: x87 :: x88 :: x89 :: x90 :: x91 :: x92 :: x93 :: x94 :: x95 :: x96 :: x97 :: x98 :: x99 :: x100 :: x101 :: x102 :: x103 :: x104 :: x105 :: x106 :: x107 :: []), []⟩ V := by
  subst her
  have k0 := HP.out.1.cell (j := 0) rfl
  have k1 := HP.out.1.cell (j := 1) rfl
  have k2 := HP.out.1.cell (j := 2) rfl
  have k3 := HP.out.1.cell (j := 3) rfl
  conv => arg 2; whnf
  go_upto_region 11 with (go_at_call 8; refine (HSG.out _ (rs_one HP.out.2.1)).mono ?_; rintro r w1 ⟨rfl, hB⟩; have P1 := hide' (HP.out.step hB); clear hB k0 k1 k2 k3)
  rename_i KK hKK
  have HKK := hide' hKK
  clear hKK
  obtain ⟨S, hS⟩ : ∃ S, w1.heap.size = S := ⟨_, rfl⟩
  obtain ⟨wB, hwB⟩ : ∃ wB, w1.alloc (.cells #[.string sn, .int .i64 46, .int .i64 1, .int .i64 60, .string D] 27) = wB := ⟨_, rfl⟩
  have Q0 : Hid (Sq w wB R G S #[.int .i64 256, .int .i64 (m : Int), .int .i64 (c : Int), .int .i64 (s : Int)] #[.string sn, .int .i64 t, .int .i64 1, .int .i64 60, .string d] #[.string sn, .int .i64 46, .int .i64 1, .int .i64 60, .string D]) := by rw [← hwB, ← hS]; exact Sq.start P1.out _
  simp only [hwB, hS]
  have hst : StrsAt wB pa ah := HST.out.below (Q0.out.1.2.2.1)
  have hal := HAL.out
  have T1 : Hid True := trivial
  clear hwB hS P1 HSG HST
  go_wp2_with (first
    | (at_builtin; have _ := T1; clear T1; refine wpList_append_strs rfl _ _ rfl wB.heap.size _ 0 [] rfl (World.ownsRow_nil _ _ _ _) pa ah ca rfl hst HNO.out (by omega) (Nat.le_refl _) ?_; intro v5 w5 hown5 hg5; have hB5 : Below wB.heap.size wB w5 := (Below.refl _ _).grown hg5 (Nat.le_refl _) (fun k e => ownBlock_le (World.ownsRow_nil wB wB.heap.size 9 1) e); have HO5 := hide' hown5; have HB5 := hide' hB5; clear hst hown5 hg5 hB5)
    | (go_at_call 18; refine (HLB.out _).mono ?_; rintro r w6 ⟨p6, c6, rfl, hs6, hn6, hB⟩; have HO6 := hide' (ownsRow_below HO5.out hB); have HB6 := hide' (bstep HB5.out hB HB5.out.size); have HN6 := hide' hn6; clear hB hn6)
    | (at_builtin; refine wpList_append_strs rfl _ _ rfl wB.heap.size v5 _ _ rfl HO6.out p6 (labs n) c6 rfl hs6 HN6.out (by have := HLL.out; omega) HB6.out.size ?_; intro v7 w7 hown7 hg7; have HB7 := hide' (HB6.out.grown hg7 HB6.out.size (fun k e => ownBlock_le HO6.out e)); have hst7 : Strs w7 v7 (ah ++ labs n) := Strs.of_owns (base := wB.heap.size) (by simpa using hown7); obtain ⟨p7, c7, rfl, hs7⟩ := hst7; have HS7 := hide' hs7; clear hs6 hown7 hg7 hs7)
    | (go_at_call 17; refine (HJN.out _ _ _ HS7.out).mono ?_; rintro r w8 ⟨rfl, hB⟩; have Q8 := hide' ((Q0.out.step HB7.out).step hB); clear hB HS7 HB7))
  all_goals (refine HKK.out _ _ ?_)
  all_goals (clear HKK HO5 HO6 HB5 HB6 HN6 Q0)
  all_goals (have s0 := Q8.out.2.1.cell (j := 0) rfl; have s1 := Q8.out.2.1.cell (j := 1) rfl; have s2 := Q8.out.2.1.cell (j := 2) rfl; have s3 := Q8.out.2.1.cell (j := 3) rfl; have s4 := Q8.out.2.1.cell (j := 4) rfl; have k0 := Q8.out.1.1.cell (j := 0) rfl; have k1 := Q8.out.1.1.cell (j := 1) rfl; have k2 := Q8.out.1.1.cell (j := 2) rfl; have k3 := Q8.out.1.1.cell (j := 3) rfl)
  go_wp2_with fail
  have QF : Hid (∀ V : World, Sq w V R G S #[.int .i64 256, .int .i64 (m : Int), .int .i64 (c : Int), .int .i64 (s : Int)] #[.string sn, .int .i64 t, .int .i64 1, .int .i64 60, .string d] #[.string sn, .int .i64 46, .int .i64 1, .int .i64 60, .string D] → V.cell? ⟨S, 0, none⟩ = some (.string sn) ∧ V.cell? ⟨S, 1, none⟩ = some (.int .i64 46) ∧ V.cell? ⟨S, 2, none⟩ = some (.int .i64 1) ∧ V.cell? ⟨S, 3, none⟩ = some (.int .i64 60) ∧ V.cell? ⟨S, 4, none⟩ = some (.string D) ∧ V.cell? ⟨R, 0, none⟩ = some (.int .i64 256) ∧ V.cell? ⟨R, 1, none⟩ = some (.int .i64 (m : Int)) ∧ V.cell? ⟨R, 2, none⟩ = some (.int .i64 (c : Int)) ∧ V.cell? ⟨R, 3, none⟩ = some (.int .i64 (s : Int))) := fun V h => ⟨h.2.1.cell rfl, h.2.1.cell rfl, h.2.1.cell rfl, h.2.1.cell rfl, h.2.1.cell rfl, h.1.1.cell rfl, h.1.1.cell rfl, h.1.1.cell rfl, h.1.1.cell rfl⟩
  refine wp_region_held_drew (S := fun V => V.cell? ⟨S, 0, none⟩ = some (.string sn) ∧ V.cell? ⟨S, 1, none⟩ = some (.int .i64 46) ∧ V.cell? ⟨S, 2, none⟩ = some (.int .i64 1) ∧ V.cell? ⟨S, 3, none⟩ = some (.int .i64 60) ∧ V.cell? ⟨S, 4, none⟩ = some (.string D) ∧ V.cell? ⟨R, 0, none⟩ = some (.int .i64 256) ∧ V.cell? ⟨R, 1, none⟩ = some (.int .i64 (m : Int)) ∧ V.cell? ⟨R, 2, none⟩ = some (.int .i64 (c : Int)) ∧ V.cell? ⟨R, 3, none⟩ = some (.int .i64 (s : Int))) (by kernel_rfl) ?_ (fun hHeld => ?_)
  · (try dsimp only); go_keep
  refine takeD 0 (some 88) (.slice (some ⟨G, 0, none⟩) 1 1) rfl rfl (by kernel_rfl) (by kernel_rfl) (by kernel_rfl) (fun _ _ _ h => h) (Or.inl ⟨by rfl, ?_⟩) (by assumption) ?_
  · intro w hSw; (try dsimp only at hSw); go_simp <;> (intros; omega)
  simp only [Act.put, List.setIfInBounds_toArray, List.set_cons_zero, List.set_cons_succ]
  refine takeD 1 (some 89) (.agg #[.string sn, .int .i64 46, .int .i64 1, .int .i64 60, .string D]) rfl rfl (by kernel_rfl) (by kernel_rfl) (by kernel_rfl) (fun _ _ _ h => h) (Or.inl ⟨by rfl, ?_⟩) (by assumption) ?_
  · intro w hSw; (try dsimp only at hSw); go_simp <;> (intros; omega)
  simp only [Act.put, List.setIfInBounds_toArray, List.set_cons_zero, List.set_cons_succ]
  refine takeD 2 (some 90) (.string n) rfl rfl (by kernel_rfl) (by kernel_rfl) (by kernel_rfl) (fun _ _ _ h => h) (Or.inl ⟨by rfl, ?_⟩) (by assumption) ?_
  · intro w hSw; (try dsimp only at hSw); go_simp <;> (intros; omega)
  simp only [Act.put, List.setIfInBounds_toArray, List.set_cons_zero, List.set_cons_succ]
  refine takeD 3 (some 91) (.agg #[.int .i64 256, .int .i64 (m : Int), .int .i64 (c : Int), .int .i64 (s : Int)]) rfl rfl (by kernel_rfl) (by kernel_rfl) (by kernel_rfl) (fun _ _ _ h => h) (Or.inl ⟨by rfl, ?_⟩) (by assumption) ?_
  · intro w hSw; (try dsimp only at hSw); go_simp <;> (intros; omega)
  simp only [Act.put, List.setIfInBounds_toArray, List.set_cons_zero, List.set_cons_succ]
  refine wpAnyH_ready (rs := [4]) (by kernel_rfl) (by simp) ?_
  refine AllReadyH.cons rfl (fun K hK => ?_) AllReadyH.nil
  go_simp
  go_at_call 15; refine (HPU.out _).mono ?_; rintro r w9 ⟨rfl, hB⟩; have Q9 := hide' (show Sq w w9 R G S #[.int .i64 256, .int .i64 (m : Int), .int .i64 (c : Int), .int .i64 (s : Int)] #[.string sn, .int .i64 t, .int .i64 1, .int .i64 60, .string d] #[.string sn, .int .i64 46, .int .i64 1, .int .i64 60, .string D] by first | exact Q8.out.step hB | exact Q8.out.drew.step hB); clear hB
  go_wp2_with fail
  refine hK.out _ _ (QF.out _ Q9.out) (fun hHeld => ?_)
  clear hK K
  try simp only [Act.put, List.setIfInBounds_toArray, List.set_cons_zero, List.set_cons_succ]
  refine wpAnyH_ready (rs := [5]) (by kernel_rfl) (by simp) ?_
  refine AllReadyH.cons rfl (fun K hK => ?_) AllReadyH.nil
  go_simp
  go_at_call 11; refine (HVT.out _ (show RsAt _ _ _ by first | exact rs_one Q9.out.1.2.1 | exact rs_one Q9.out.drew.1.2.1)).mono ?_; rintro r wa ⟨rfl, hB⟩; have Qa := hide' (show Sq w wa R G S #[.int .i64 256, .int .i64 (m : Int), .int .i64 (c : Int), .int .i64 (s : Int)] #[.string sn, .int .i64 t, .int .i64 1, .int .i64 60, .string d] #[.string sn, .int .i64 46, .int .i64 1, .int .i64 60, .string D] by first | exact Q9.out.step hB | exact Q9.out.drew.step hB); clear hB
  go_wp2_with fail
  refine hK.out _ _ (QF.out _ Qa.out) (fun hHeld => ?_)
  clear hK K
  try simp only [Act.put, List.setIfInBounds_toArray, List.set_cons_zero, List.set_cons_succ]
  refine takeD 6 (some 94) (.bool false) rfl rfl (by kernel_rfl) (by kernel_rfl) (by kernel_rfl) (fun _ _ _ h => h) (Or.inl ⟨by rfl, ?_⟩) (by assumption) ?_
  · intro w hSw; (try dsimp only at hSw); go_simp <;> (intros; omega)
  simp only [Act.put, List.setIfInBounds_toArray, List.set_cons_zero, List.set_cons_succ]
  refine wpAnyH_done (by kernel_rfl) ?_ _
  clear s0 s1 s2 s3 s4 k0 k1 k2 k3 QF
  have s0 := Qa.out.2.1.cell (j := 0) rfl
  have g0 := Qa.out.1.2.1.cell (j := 0) rfl
  have QS := Qa.out.2.1.grown (grown_set wa G 0 (.string fu)) (by intro e; injection e with e; have := Qa.out.2.2; omega)
  have t0 := QS.cell (j := 0) rfl
  have ft := QS.free 0
  clear QS
  have fs := Qa.out.2.1.free 0
  have fg := Qa.out.1.2.1.free 0
  try simp only [Act.put, List.setIfInBounds_toArray, List.set_cons_zero, List.set_cons_succ]
  go_upto_region 17 with fail
  rename_i K2 hK2
  have HK2 := hide' hK2
  clear hK2
  have QP := (Qa.out.put (.string fu))
  obtain ⟨Wb, hWb⟩ : ∃ Wb, (World.setCell wa ⟨G, 0, none⟩ (.string fu)).setCell ⟨S, 0, none⟩ (.string fu) = Wb := ⟨_, rfl⟩
  have Qb : Hid (Sq w Wb R G S #[.int .i64 256, .int .i64 (m : Int), .int .i64 (c : Int), .int .i64 (s : Int)] #[.string fu, .int .i64 t, .int .i64 1, .int .i64 60, .string d] #[.string fu, .int .i64 46, .int .i64 1, .int .i64 60, .string D]) := by
    unfold Hid
    rw [← hWb]
    simpa using QP
  simp only [hWb]
  have QG : Hid (∀ V : World, Sq w V R G S #[.int .i64 256, .int .i64 (m : Int), .int .i64 (c : Int), .int .i64 (s : Int)] #[.string fu, .int .i64 t, .int .i64 1, .int .i64 60, .string d] #[.string fu, .int .i64 46, .int .i64 1, .int .i64 60, .string D] → V.cell? ⟨S, 0, none⟩ = some (.string fu) ∧ V.cell? ⟨S, 1, none⟩ = some (.int .i64 46) ∧ V.cell? ⟨S, 2, none⟩ = some (.int .i64 1) ∧ V.cell? ⟨S, 3, none⟩ = some (.int .i64 60) ∧ V.cell? ⟨S, 4, none⟩ = some (.string D) ∧ V.cell? ⟨R, 0, none⟩ = some (.int .i64 256) ∧ V.cell? ⟨R, 1, none⟩ = some (.int .i64 (m : Int)) ∧ V.cell? ⟨R, 2, none⟩ = some (.int .i64 (c : Int)) ∧ V.cell? ⟨R, 3, none⟩ = some (.int .i64 (s : Int))) := fun V h => ⟨h.2.1.cell rfl, h.2.1.cell rfl, h.2.1.cell rfl, h.2.1.cell rfl, h.2.1.cell rfl, h.1.1.cell rfl, h.1.1.cell rfl, h.1.1.cell rfl, h.1.1.cell rfl⟩
  clear hWb QP Qa s0 g0 fs fg t0 ft
  obtain ⟨s0, s1, s2, s3, s4, k0, k1, k2, k3⟩ := QG.out _ Qb.out
  refine wp_region_held_drew (S := fun V => V.cell? ⟨S, 0, none⟩ = some (.string fu) ∧ V.cell? ⟨S, 1, none⟩ = some (.int .i64 46) ∧ V.cell? ⟨S, 2, none⟩ = some (.int .i64 1) ∧ V.cell? ⟨S, 3, none⟩ = some (.int .i64 60) ∧ V.cell? ⟨S, 4, none⟩ = some (.string D) ∧ V.cell? ⟨R, 0, none⟩ = some (.int .i64 256) ∧ V.cell? ⟨R, 1, none⟩ = some (.int .i64 (m : Int)) ∧ V.cell? ⟨R, 2, none⟩ = some (.int .i64 (c : Int)) ∧ V.cell? ⟨R, 3, none⟩ = some (.int .i64 (s : Int))) (by kernel_rfl) ?_ (fun hHeld => ?_)
  · (try dsimp only); go_keep
  refine takeD 0 (some 101) (.slice (some ⟨G, 0, none⟩) 1 1) rfl rfl (by kernel_rfl) (by kernel_rfl) (by kernel_rfl) (fun _ _ _ h => h) (Or.inl ⟨by rfl, ?_⟩) (by assumption) ?_
  · intro w hSw; (try dsimp only at hSw); go_simp <;> (intros; omega)
  simp only [Act.put, List.setIfInBounds_toArray, List.set_cons_zero, List.set_cons_succ]
  refine takeD 1 (some 102) (.agg #[.string fu, .int .i64 46, .int .i64 1, .int .i64 60, .string D]) rfl rfl (by kernel_rfl) (by kernel_rfl) (by kernel_rfl) (fun _ _ _ h => h) (Or.inl ⟨by rfl, ?_⟩) (by assumption) ?_
  · intro w hSw; (try dsimp only at hSw); go_simp <;> (intros; omega)
  simp only [Act.put, List.setIfInBounds_toArray, List.set_cons_zero, List.set_cons_succ]
  refine takeD 2 (some 103) (.string n) rfl rfl (by kernel_rfl) (by kernel_rfl) (by kernel_rfl) (fun _ _ _ h => h) (Or.inl ⟨by rfl, ?_⟩) (by assumption) ?_
  · intro w hSw; (try dsimp only at hSw); go_simp <;> (intros; omega)
  simp only [Act.put, List.setIfInBounds_toArray, List.set_cons_zero, List.set_cons_succ]
  refine takeD 3 (some 104) (.agg #[.int .i64 256, .int .i64 (m : Int), .int .i64 (c : Int), .int .i64 (s : Int)]) rfl rfl (by kernel_rfl) (by kernel_rfl) (by kernel_rfl) (fun _ _ _ h => h) (Or.inl ⟨by rfl, ?_⟩) (by assumption) ?_
  · intro w hSw; (try dsimp only at hSw); go_simp <;> (intros; omega)
  simp only [Act.put, List.setIfInBounds_toArray, List.set_cons_zero, List.set_cons_succ]
  refine wpAnyH_ready (rs := [4]) (by kernel_rfl) (by simp) ?_
  refine AllReadyH.cons rfl (fun K hK => ?_) AllReadyH.nil
  go_simp
  go_at_call 15; refine (HPU.out _).mono ?_; rintro r wc ⟨rfl, hB⟩; have Qc := hide' (show Sq w wc R G S #[.int .i64 256, .int .i64 (m : Int), .int .i64 (c : Int), .int .i64 (s : Int)] #[.string fu, .int .i64 t, .int .i64 1, .int .i64 60, .string d] #[.string fu, .int .i64 46, .int .i64 1, .int .i64 60, .string D] by first | exact Qb.out.step hB | exact Qb.out.drew.step hB); clear hB
  go_wp2_with fail
  refine hK.out _ _ (QG.out _ Qc.out) (fun hHeld => ?_)
  clear hK K
  try simp only [Act.put, List.setIfInBounds_toArray, List.set_cons_zero, List.set_cons_succ]
  refine wpAnyH_ready (rs := [5]) (by kernel_rfl) (by simp) ?_
  refine AllReadyH.cons rfl (fun K hK => ?_) AllReadyH.nil
  go_simp
  go_at_call 11; refine (HV2.out _ (show RsAt _ _ _ by first | exact rs_one Qc.out.1.2.1 | exact rs_one Qc.out.drew.1.2.1)).mono ?_; rintro r wd ⟨rfl, hB⟩; have Qd := hide' (show Sq w wd R G S #[.int .i64 256, .int .i64 (m : Int), .int .i64 (c : Int), .int .i64 (s : Int)] #[.string fu, .int .i64 t, .int .i64 1, .int .i64 60, .string d] #[.string fu, .int .i64 46, .int .i64 1, .int .i64 60, .string D] by first | exact Qc.out.step hB | exact Qc.out.drew.step hB); clear hB
  go_wp2_with fail
  refine hK.out _ _ (QG.out _ Qd.out) (fun hHeld => ?_)
  clear hK K
  try simp only [Act.put, List.setIfInBounds_toArray, List.set_cons_zero, List.set_cons_succ]
  refine takeD 6 (some 107) (.bool true) rfl rfl (by kernel_rfl) (by kernel_rfl) (by kernel_rfl) (fun _ _ _ h => h) (Or.inl ⟨by rfl, ?_⟩) (by assumption) ?_
  · intro w hSw; (try dsimp only at hSw); go_simp <;> (intros; omega)
  simp only [Act.put, List.setIfInBounds_toArray, List.set_cons_zero, List.set_cons_succ]
  refine takeD 7 (some 14) (.bool true) rfl rfl (by kernel_rfl) (by kernel_rfl) (by kernel_rfl) (fun _ _ _ h => h) (Or.inl ⟨by rfl, ?_⟩) (by assumption) ?_
  · intro w hSw; (try dsimp only at hSw); go_simp <;> (intros; omega)
  simp only [Act.put, List.setIfInBounds_toArray, List.set_cons_zero, List.set_cons_succ]
  refine wpAnyH_done (by kernel_rfl) ?_ _
  go_wp2_with fail
  refine HK2.out _ _ ?_
  go_wp2_with fail
  go_ret
  exact ⟨rfl, by first | exact Qd.out.1.2.2.1 | exact Qd.out.drew.1.2.2.1⟩
end Go.Proofs.YtennkhdhnbdbeaaGreat

/-
  SealStars: its walk. (The verifier's own text.)
-/
namespace Go.Proofs.YtennkhdhnbdbeaaGreat
set_option linter.unusedVariables false
set_option linter.unusedSimpArgs false
open Go.RowKit Go.Shelf Go.Sort Go.Proofs.YtennkhdhnbdbeaaGreat.Nm

theorem chunks_len : ∀ l : List ByteArray, l.length ≤ (chunks l).size
  | [] => Nat.zero_le _
  | x :: l => by
    have h := chunks_len l
    rw [chunks_cons, ByteArray.size_append, chunk_size, List.length_cons]
    omega
theorem labs_le {n : ByteArray} (h : isN n = true) : (labs n).length ≤ n.size := by
  have h1 := chunks_len (labs n)
  have h2 := putB_size (labs n)
  rw [putB_labs h] at h2
  omega
theorem txt_one (st ah : ByteArray) (dd : List UInt8) : (txL st ah [dd]).length = st.size + (ah.size + 2 + dd.length) := by
  unfold txL
  rw [List.length_append, Array.length_toList]
  have e : [dd].flatMap (lineB ah) = lineB ah dd := by simp
  rw [e, lineB_len]
  rfl
theorem srt_one (x : Rn) : srt (fdL [x]) = [(foldD x.t x.d).data.toList] := by simp [srt, fdL]
theorem txt_small (t0 l0 g0 u b tg : Nat) (F xo : ByteArray) (x : Rn) (hF : F.size ≤ 255) (hx : errD x.t x.d = 0) : (⟨(txL (stB t0 253 l0 g0 u b tg F) (ahB l0 g0 xo t0) (srt (fdL [x]))).toArray⟩ : ByteArray).size ≤ 2097152 := by
  show (txL _ _ _).toArray.size ≤ _
  rw [List.size_toArray, srt_one, txt_one]
  have h1 := foldD_size hx
  have h2 : (foldD x.t x.d).data.toList.length = (foldD x.t x.d).size := by rw [Array.length_toList]; rfl
  have h3 : (stB t0 253 l0 g0 u b tg F).size ≤ 273 := by unfold stB; simp only [ByteArray.size_append, nB_size]; omega
  have h4 : (ahB l0 g0 xo t0).size ≤ 263 := by
    unfold ahB
    have := foldB_small (if (l0 : Int) < lbI xo then starB (tailB xo l0) else xo)
    simp only [ByteArray.size_append, nB_size]
    unfold owB
    omega
  omega
theorem fd_one {x : Rn} (hx : errD x.t x.d = 0) : ∀ y ∈ fdL [x], y.length ≤ 65535 := by
  intro y hy
  simp only [fdL, List.map_cons, List.map_nil, List.mem_singleton] at hy
  subst hy
  rw [Array.length_toList]
  exact foldD_size hx
theorem signE_zero {f m e s : Int} {n : ByteArray} {L : List Rn} {b u : Int} (h : signE f m e s n L b u = 0) : isN n = true ∧ setOK L = true ∧ oneAge L = true ∧ withinB (hdR L).o n = true ∧ rkB f m e s = true ∧ ¬ (b < 0 ∨ u < b ∨ 4294967295 < u) := by
  unfold signE at h
  by_cases h1 : rkB f m e s = false
  · rw [if_pos h1] at h; cases h
  rw [if_neg h1] at h
  by_cases h2 : isN n = false
  · rw [if_pos h2] at h; cases h
  rw [if_neg h2] at h
  by_cases h3 : b < 0 ∨ u < b ∨ 4294967295 < u
  · rw [if_pos h3] at h; cases h
  rw [if_neg h3] at h
  by_cases h4 : setOK L = false ∨ oneAge L = false
  · rw [if_pos h4] at h; cases h
  rw [if_neg h4] at h
  by_cases h5 : withinB (hdR L).o n = false
  · rw [if_pos h5] at h; cases h
  have h6 : setOK L = true ∧ oneAge L = true := by
    constructor
    · cases hs : setOK L with | true => rfl | false => exact absurd (.inl hs) h4
    · cases hs : oneAge L with | true => rfl | false => exact absurd (.inr hs) h4
  exact ⟨by simpa using h2, h6.1, h6.2, by simpa using h5, by simpa using h1, h3⟩
set_option maxRecDepth 100000 in
set_option maxHeartbeats 8000000 in
theorem stars_all (n d : ByteArray) (t : Int) (pa : Option Addr) (ca : Nat) (ah : List ByteArray) (m c s R G : Nat) (w V : World) (hK : KY m c s) (hn : n.size ≤ 1048576) (hd : d.size ≤ 1048576) (hst : StrsAt w pa ah) (hno : pa = none → ca = 0) (hal : ah.length + n.size ≤ 1048576) (haz : ∀ x ∈ ah, x.size ≤ 1048576)
    (HP : Hid (Sp w V R G #[.int .i64 256, .int .i64 (m : Int), .int .i64 (c : Int), .int .i64 (s : Int)] #[.string (starB n), .int .i64 t, .int .i64 1, .int .i64 60, .string d])) (x0 x1 x2 x5 x6 x7 x8 x9 x10 x11 x12 x13 x14 x16 x17 x18 x20 x21 x22 x23 x24 x25 x26 x27 x28 x29 x30 x31 x32 x33 x34 x35 x36 x37 x38 x39 x40 x41 x42 x43 x44 x45 x46 x47 x48 x49 x50 x51 x52 x53 x54 x55 x56 x57 x58 x59 x60 x61 x62 x63 x64 x65 x66 x67 x68 x69 x70 x71 x72 x73 x74 x75 x76 x77 x78 x79 x80 x81 x82 x83 x84 x85 x86 x87 x88 x89 x90 x91 x92 x93 x94 x95 x96 x97 x98 x99 x100 x101 x102 x103 x104 x105 x106 x107 : Value) :
    Code.wp Tryz.prog (((Tryz.f6.body.map (tailsS 7)).getD []).getD 0 .skip) (bodyPost Tryz.prog Tryz.f6 fun r w' => r = .returned (.bool true) ∧ Below w.heap.size w w') ⟨List.toArray (x0 :: x1 :: x2 :: (.string n : Value) :: (.slice pa ah.length ca : Value) :: x5 :: x6 :: x7 :: x8 :: x9 :: x10 :: x11 :: x12 :: x13 :: x14 :: (.pointer (some ⟨R, 0, none⟩) : Value) :: x16 :: x17 :: x18 :: (.slice (some ⟨G, 0, none⟩) 1 1 : Value) :: x20 :: x21 :: x22 :: x23 :: x24 :: x25 :: x26 :: x27 :: x28 :: x29 :: x30 :: x31 :: x32 :: x33 :: x34 :: x35 :: x36 :: x37 :: x38 :: x39 :: x40 :: x41 :: x42 :: x43 :: x44 :: x45 :: x46 :: x47 :: x48 :: x49 :: x50 :: x51 :: x52 :: x53 :: x54 :: x55 :: x56 :: x57 :: x58 :: x59 :: x60 :: x61 :: x62 :: x63 :: x64 :: x65 :: x66 :: x67 :: x68 :: x69 :: x70 :: x71 :: x72 :: x73 :: x74 :: x75 :: x76 :: x77 :: x78 :: x79 :: x80 :: x81 :: x82 :: x83 :: x84 :: x85 :: x86 :: x87 :: x88 :: x89 :: x90 :: x91 :: x92 :: x93 :: x94 :: x95 :: x96 :: x97 :: x98 :: x99 :: x100 :: x101 :: x102 :: x103 :: x104 :: x105 :: x106 :: x107 :: []), []⟩ V := by
  have hsz : ∀ o : ByteArray, o.size ≤ maxLen → ∀ r ∈ ([⟨o, t, 1, 60, d⟩] : List Rn), r.o.size ≤ maxLen ∧ r.d.size ≤ 9223372036854775807 := fun o ho r hr => by
    rw [List.mem_singleton] at hr
    subst hr
    exact ⟨ho, by show d.size ≤ _; omega⟩
  have hsn := star_small n
  have hnm : n.size ≤ maxLen := by unfold maxLen; omega
  by_cases hE : signE 256 m c s n [⟨starB n, t, 1, 60, d⟩] 0 9 = 0
  · obtain ⟨hN, h4, h5, h6, h1, -⟩ := signE_zero hE
    change withinB (starB n) n = true at h6
    have h4' := h4
    rw [set_one, strB_self] at h4'
    simp only [Bool.and_eq_true, Bool.not_eq_true', Bool.or_eq_false_iff, Bool.not_eq_false', beq_eq_false_iff_ne] at h4'
    obtain ⟨ht46, hzon, -⟩ := h4'
    obtain ⟨hSN, -, -, -, herr, htl, htu, hdz⟩ := zon_of hzon
    obtain ⟨t0, rfl⟩ : ∃ t0 : Nat, t = (t0 : Int) := ⟨t.toNat, by omega⟩
    obtain ⟨-, hn253, hlabs, -⟩ := star_facts hSN
    have hl := lb_star hSN
    have hll := labs_len_le hN
    have hmm : 65537 ≤ m ∧ m ≤ 2147483647 ∧ s ≤ 2147483647 := by obtain ⟨a, b, -, -, -, -, h1, h2, -, -, -, h3⟩ := hK; exact ⟨h1, h2, h3⟩
    have hFz := foldB_small n
    have hsnz : (starB n).size ≤ 255 := ((isN_iff _).1 hSN).1
    obtain ⟨T, hT⟩ : ∃ T, (⟨(txL (stB t0 253 (labs n).length 60 9 0 (tagN (pubB 256 m c s)) (foldB n)) (ahB (labs n).length 60 (starB n) t0) (srt (fdL [⟨starB n, (t0 : Int), 1, 60, d⟩]))).toArray⟩ : ByteArray) = T := ⟨_, rfl⟩
    have hTz : T.size ≤ 2097152 := by rw [← hT]; exact txt_small _ _ _ _ _ _ _ _ _ hFz herr
    have hfd := fd_one (x := ⟨starB n, (t0 : Int), 1, 60, d⟩) herr
    have HSG : Hid (∀ W : World, RsAt W (some ⟨G, 0, none⟩) [⟨starB n, (t0 : Int), 1, 60, d⟩] → Calls Tryz.prog 8 #[.agg #[.int .i64 256, .int .i64 (m : Int), .int .i64 (c : Int), .int .i64 (s : Int)], .string n, .slice (some ⟨G, 0, none⟩) 1 1, .int .i64 0, .int .i64 9] W fun r w' => r = .returned (.tuple #[.agg #[.string (starB n), .int .i64 46, .int .i64 1, .int .i64 60, .string (sgD 256 m c s t0 (labs n).length 60 9 0 (foldB n) T)], .int .i64 0]) ∧ Below W.heap.size W w') := fun W h =>
      sign_yes 256 m c s n [⟨starB n, (t0 : Int), 1, 60, d⟩] (some ⟨G, 0, none⟩) 1 0 9 W (starB n) d 1 t0 60 (labs n).length _ (foldB n) T hnm (by simp) h (hsz _ hsn) rfl h1 hN (by omega) (by omega) h4 h5 h6 (by omega) (by omega) hl (by omega) rfl rfl hT hTz hfd hsnz (by omega) (by omega) (by omega)
    have HLB : Hid (∀ W : World, Calls Tryz.prog 18 #[.string n] W fun e W' => ∃ p c, e = .returned (.slice p (labs n).length c) ∧ StrsAt W' p (labs n) ∧ (p = none → c = 0) ∧ Below W.heap.size W W') := fun W => labels_row n W hnm hN
    have hjl : ah.length + (labs n).length ≤ 1048576 := by have := labs_le hN; omega
    have HJ : ∀ fu er, joinB (ah ++ labs n) = (fu, er) → Hid (∀ (W : World) (p : Option Addr) (c : Nat), StrsAt W p (ah ++ labs n) → Calls Tryz.prog 17 #[.slice p (ah.length + (labs n).length) c] W fun r w' => r = .returned (.tuple #[.string fu, .int .i64 er]) ∧ Below W.heap.size W w') := fun fu er hj W p c h => by
      have h9 := join_any p c (ah ++ labs n) W h (by rw [List.length_append]; omega) (fun x hx => by
        rcases List.mem_append.1 hx with hx | hx
        · exact haz x hx
        · have := (okL_labs n x hx).2; omega)
      rw [hj, List.length_append] at h9
      exact h9
    have HPU : Hid (∀ W : World, Calls Tryz.prog 15 #[.agg #[.int .i64 256, .int .i64 (m : Int), .int .i64 (c : Int), .int .i64 (s : Int)]] W fun r w' => r = .returned (.string (pubB 256 m c s)) ∧ Below W.heap.size W w') := fun W => public_any 256 m c s W
    have HV : ∀ now : Int, Hid (∀ W : World, RsAt W (some ⟨G, 0, none⟩) [⟨starB n, (t0 : Int), 1, 60, d⟩] → Calls Tryz.prog 11 #[.slice (some ⟨G, 0, none⟩) 1 1, .agg #[.string (starB n), .int .i64 46, .int .i64 1, .int .i64 60, .string (sgD 256 m c s t0 (labs n).length 60 9 0 (foldB n) T)], .string n, .string (pubB 256 m c s), .int .i64 now] W fun r w' => r = .returned (.int .i64 (if now < ((0 : Nat) : Int) ∨ ((9 : Nat) : Int) < now then 25 else 0)) ∧ Below W.heap.size W w') := fun now W h =>
      verify_round [⟨starB n, (t0 : Int), 1, 60, d⟩] (some ⟨G, 0, none⟩) 1 (starB n) n (starB n) (foldB n) T n 60 now 256 m c s t0 (labs n).length 60 9 0 W hK (.inl rfl) (by simp) h (hsz _ hsn) h4 rfl rfl hSN hN rfl (within_fold h6) (eq_fold hN) hnm hSN (eq_self hSN) (by omega) (by omega) (by omega) (by omega) (by omega) (by omega) (by omega) (by rw [hl]; exact Int.le_refl _) hfd hT hTz
    have HVT := HV 10
    rw [if_pos (.inr (by decide))] at HVT
    have HV9 := HV 9
    rw [if_neg (by decide)] at HV9
    by_cases hok : OkL (ah ++ labs n) ∧ (putB (ah ++ labs n)).size ≤ 255
    · have HJN := HJ _ _ (joinB_ok hok.1 hok.2)
      by_cases hah : ah = []
      · exact stars_j0b n d (starB n) (pubB 256 m c s) t0 pa ca ah m c s R G w V HP _ _ _ hst hno (by unfold Hid; omega) hll HSG HLB HJN HPU HVT HV9 rfl (by rw [hah]; rfl) x0 x1 x2 x5 x6 x7 x8 x9 x10 x11 x12 x13 x14 x16 x17 x18 x20 x21 x22 x23 x24 x25 x26 x27 x28 x29 x30 x31 x32 x33 x34 x35 x36 x37 x38 x39 x40 x41 x42 x43 x44 x45 x46 x47 x48 x49 x50 x51 x52 x53 x54 x55 x56 x57 x58 x59 x60 x61 x62 x63 x64 x65 x66 x67 x68 x69 x70 x71 x72 x73 x74 x75 x76 x77 x78 x79 x80 x81 x82 x83 x84 x85 x86 x87 x88 x89 x90 x91 x92 x93 x94 x95 x96 x97 x98 x99 x100 x101 x102 x103 x104 x105 x106 x107
      · obtain ⟨f1, f2, f3, f4⟩ := full_facts hN hok.1 hok.2 hah hSN
        have hfz := ((isN_iff _).1 f1).1
        have h4f : setOK [⟨putB (ah ++ labs n), (t0 : Int), 1, 60, d⟩] = true := by
          rw [set_one, strB_self]
          have hz2 : zonB (putB (ah ++ labs n)) d t0 1 60 = true := by
            have := hzon
            unfold zonB at this ⊢
            rw [hSN] at this
            rw [f1]
            exact this
          simp only [Bool.and_eq_true, Bool.not_eq_true', Bool.or_eq_false_iff, Bool.not_eq_false', beq_eq_false_iff_ne]
          exact ⟨ht46, hz2, eq_self f1⟩
        have hT2 : (⟨(txL (stB t0 253 (labs n).length 60 9 0 (tagN (pubB 256 m c s)) (foldB n)) (ahB (labs n).length 60 (putB (ah ++ labs n)) t0) (srt (fdL [⟨putB (ah ++ labs n), (t0 : Int), 1, 60, d⟩]))).toArray⟩ : ByteArray) = T := by
          rw [← hT]
          have ha : ahB (labs n).length 60 (putB (ah ++ labs n)) t0 = ahB (labs n).length 60 (starB n) t0 := by unfold ahB; rw [f3, ow_star hSN]
          rw [ha]
          rfl
        have HV2 : Hid (∀ W : World, RsAt W (some ⟨G, 0, none⟩) [⟨putB (ah ++ labs n), (t0 : Int), 1, 60, d⟩] → Calls Tryz.prog 11 #[.slice (some ⟨G, 0, none⟩) 1 1, .agg #[.string (putB (ah ++ labs n)), .int .i64 46, .int .i64 1, .int .i64 60, .string (sgD 256 m c s t0 (labs n).length 60 9 0 (foldB n) T)], .string n, .string (pubB 256 m c s), .int .i64 9] W fun r w' => r = .returned (.int .i64 0) ∧ Below W.heap.size W w') := fun W h => by
          have h9 := verify_round [⟨putB (ah ++ labs n), (t0 : Int), 1, 60, d⟩] (some ⟨G, 0, none⟩) 1 (putB (ah ++ labs n)) n (putB (ah ++ labs n)) (foldB n) T n 60 9 256 m c s t0 (labs n).length 60 9 0 W hK (.inl rfl) (by simp) h (hsz _ (by unfold maxLen; omega)) h4f rfl rfl f1 hN rfl f4 (eq_fold hN) hnm f1 (eq_self f1) (by omega) (by omega) (by omega) (by omega) (by omega) (by omega) (by omega) f2 (fd_one (x := ⟨putB (ah ++ labs n), (t0 : Int), 1, 60, d⟩) herr) hT2 hTz
          rw [if_neg (by decide)] at h9
          exact h9
        exact stars_j1 n d (starB n) (pubB 256 m c s) t0 pa ca ah m c s R G w V HP _ _ _ hst hno (by unfold Hid; omega) hll HSG HLB HJN HPU HVT HV2 rfl (by have : 0 < ah.length := List.length_pos_iff.2 hah; omega) x0 x1 x2 x5 x6 x7 x8 x9 x10 x11 x12 x13 x14 x16 x17 x18 x20 x21 x22 x23 x24 x25 x26 x27 x28 x29 x30 x31 x32 x33 x34 x35 x36 x37 x38 x39 x40 x41 x42 x43 x44 x45 x46 x47 x48 x49 x50 x51 x52 x53 x54 x55 x56 x57 x58 x59 x60 x61 x62 x63 x64 x65 x66 x67 x68 x69 x70 x71 x72 x73 x74 x75 x76 x77 x78 x79 x80 x81 x82 x83 x84 x85 x86 x87 x88 x89 x90 x91 x92 x93 x94 x95 x96 x97 x98 x99 x100 x101 x102 x103 x104 x105 x106 x107
    · have hj : ∃ er, joinB (ah ++ labs n) = (ByteArray.empty, er) ∧ ¬ er = 0 := by
        unfold joinB
        by_cases hb : okLB (ah ++ labs n) = true
        · rw [if_pos hb, if_neg (fun h => hok ⟨(okLB_iff _).1 hb, h⟩)]
          exact ⟨4, rfl, by decide⟩
        · rw [if_neg hb]
          exact ⟨3, rfl, by decide⟩
      obtain ⟨er, hj, her⟩ := hj
      exact stars_j0 n d (starB n) (pubB 256 m c s) t0 pa ca ah m c s R G w V HP _ _ _ hst hno (by unfold Hid; omega) hll HSG HLB (HJ _ _ hj) HPU HVT HV9 her x0 x1 x2 x5 x6 x7 x8 x9 x10 x11 x12 x13 x14 x16 x17 x18 x20 x21 x22 x23 x24 x25 x26 x27 x28 x29 x30 x31 x32 x33 x34 x35 x36 x37 x38 x39 x40 x41 x42 x43 x44 x45 x46 x47 x48 x49 x50 x51 x52 x53 x54 x55 x56 x57 x58 x59 x60 x61 x62 x63 x64 x65 x66 x67 x68 x69 x70 x71 x72 x73 x74 x75 x76 x77 x78 x79 x80 x81 x82 x83 x84 x85 x86 x87 x88 x89 x90 x91 x92 x93 x94 x95 x96 x97 x98 x99 x100 x101 x102 x103 x104 x105 x106 x107
  · exact stars_no n d (starB n) .empty t pa ca ah m c s R G w V HP _ hE (fun W h => sign_no 256 m c s n [⟨starB n, t, 1, 60, d⟩] (some ⟨G, 0, none⟩) 1 0 9 W hnm (by simp) h (hsz _ hsn) hE) x0 x1 x2 x5 x6 x7 x8 x9 x10 x11 x12 x13 x14 x16 x17 x18 x20 x21 x22 x23 x24 x25 x26 x27 x28 x29 x30 x31 x32 x33 x34 x35 x36 x37 x38 x39 x40 x41 x42 x43 x44 x45 x46 x47 x48 x49 x50 x51 x52 x53 x54 x55 x56 x57 x58 x59 x60 x61 x62 x63 x64 x65 x66 x67 x68 x69 x70 x71 x72 x73 x74 x75 x76 x77 x78 x79 x80 x81 x82 x83 x84 x85 x86 x87 x88 x89 x90 x91 x92 x93 x94 x95 x96 x97 x98 x99 x100 x101 x102 x103 x104 x105 x106 x107
end Go.Proofs.YtennkhdhnbdbeaaGreat
