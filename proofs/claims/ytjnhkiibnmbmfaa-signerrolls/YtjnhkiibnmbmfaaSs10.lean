import Derived.Test.YtjnhkiibnmbmfaaSs9
/-
  Chapter 7: Safe, at a right line: both turns. (The verifier's own text.)
-/
namespace Go.Proofs.Ytjnhkiibnmbmfaa
set_option linter.unusedVariables false
set_option linter.unusedSimpArgs false
open Go.RowKit Go.Shelf Go.Sort Go.Proofs.Ytjnhkiibnmbmfaa.Nm

/-- the regions of a number in a code -/
def regsN (n : Nat) : Code → List Code
  | .region k o d => bif k == n then [.region k o d] else []
  | .seq a b => regsN n a ++ regsN n b
  | .block _ c => regsN n c
  | .scope c => regsN n c
  | .cond _ a b => regsN n a ++ regsN n b
  | .loop c => regsN n c
  | _ => []
set_option maxRecDepth 100000 in
set_option maxHeartbeats 4000000 in
theorem safe_tail5 (L : List Tk) (p : Option Addr) (cap : Nat) (ka sa fr to : Int) (w w3 : World) (hL : L.length ≤ 1048576) (HAT : Hid (TsAt w p L)) (HB3 : Hid (RowKit.Below w.heap.size w w3)) (hk1 : 0 ≤ ka ∧ ka ≤ 2147483647) (hk2 : 0 ≤ sa ∧ sa ≤ 2147483647) (h3 : 0 ≤ fr) (h4 : fr ≤ to) (h5 : to ≤ 4294967295) (HARG : Hid (argsB ka sa fr to = true)) (HLB : Hid (lineB L = true))
    (g4 c4 : Nat) (M4 : List Int) (HN4 : Hid (NsAt w3 g4 M4)) (HG : Hid (g4 < w3.heap.size)) (HM4 : Hid (∀ x, x ∈ M4 ↔ x ∈ rawT fr (fun k => (k.p, k.x)) L)) (hl4 : M4.length ≤ 2097153)
    (x5 x6 x7 x8 x9 x14 x15 x16 x17 x18 x19 x20 x21 x22 x23 x24 x25 x26 x27 x28 x29 x30 x31 x32 x33 x34 x35 x36 x37 x38 x39 x40 x41 x42 x43 x44 x45 x46 x47 x48 x49 x50 x51 x52 x53 x54 x55 x56 x57 x58 x59 x60 x61 x62 x63 x64 x65 x66 x67 x68 x69 x70 x71 x72 x73 x74 x75 x76 x77 x78 x79 x80 x81 x82 x83 x84 x85 x86 x87 x88 x89 x90 x91 : Value) :
    Code.wp Try.prog (((Try.f8.body.map (tailsN 5)).getD []).getD 0 .skip) (bodyPost Try.prog Try.f8 fun r w' => safeEnd L ka sa fr to r ∧ RowKit.Below w.heap.size w w') ⟨List.toArray ((.slice p L.length cap : Value) :: (.int .i64 ka : Value) :: (.int .i64 sa : Value) :: (.int .i64 fr : Value) :: (.int .i64 to : Value) :: x5 :: x6 :: x7 :: x8 :: x9 :: (.int .i64 0 : Value) :: (.int .i64 0 : Value) :: (.int .i64 0 : Value) :: (.slice (some ⟨g4, 0, none⟩) M4.length c4 : Value) :: x14 :: x15 :: x16 :: x17 :: x18 :: x19 :: x20 :: x21 :: x22 :: x23 :: x24 :: x25 :: x26 :: x27 :: x28 :: x29 :: x30 :: x31 :: x32 :: x33 :: x34 :: x35 :: x36 :: x37 :: x38 :: x39 :: x40 :: x41 :: x42 :: x43 :: x44 :: x45 :: x46 :: x47 :: x48 :: x49 :: x50 :: x51 :: x52 :: x53 :: x54 :: x55 :: x56 :: x57 :: x58 :: x59 :: x60 :: x61 :: x62 :: x63 :: x64 :: x65 :: x66 :: x67 :: x68 :: x69 :: x70 :: x71 :: x72 :: x73 :: x74 :: x75 :: x76 :: x77 :: x78 :: x79 :: x80 :: x81 :: x82 :: x83 :: x84 :: x85 :: x86 :: x87 :: x88 :: x89 :: x90 :: x91 :: []), []⟩ w3 := by
  have key : ∀ (K : Act → World → Prop), Hid (∀ a w', Code.wp Try.prog (((Try.f8.body.map (tailsN 6)).getD []).getD 0 .skip) (bodyPost Try.prog Try.f8 fun r w' => safeEnd L ka sa fr to r ∧ RowKit.Below w.heap.size w w') a w' → K a w') → Code.wp Try.prog (((Try.f8.body.map (regsN 6)).getD []).getD 0 .skip) (Exit.then K (bodyPost Try.prog Try.f8 fun r w' => safeEnd L ka sa fr to r ∧ RowKit.Below w.heap.size w w')) ⟨List.toArray ((.slice p L.length cap : Value) :: (.int .i64 ka : Value) :: (.int .i64 sa : Value) :: (.int .i64 fr : Value) :: (.int .i64 to : Value) :: x5 :: x6 :: x7 :: x8 :: x9 :: (.int .i64 0 : Value) :: (.int .i64 0 : Value) :: (.int .i64 0 : Value) :: (.slice (some ⟨g4, 0, none⟩) M4.length c4 : Value) :: x14 :: x15 :: x16 :: x17 :: x18 :: x19 :: x20 :: x21 :: x22 :: x23 :: x24 :: x25 :: x26 :: x27 :: x28 :: x29 :: x30 :: x31 :: x32 :: x33 :: x34 :: x35 :: x36 :: x37 :: x38 :: x39 :: x40 :: x41 :: x42 :: x43 :: x44 :: x45 :: x46 :: x47 :: x48 :: x49 :: x50 :: x51 :: x52 :: x53 :: x54 :: x55 :: x56 :: x57 :: x58 :: x59 :: x60 :: x61 :: x62 :: x63 :: x64 :: x65 :: x66 :: x67 :: x68 :: x69 :: x70 :: x71 :: x72 :: x73 :: x74 :: x75 :: x76 :: x77 :: x78 :: x79 :: x80 :: x81 :: x82 :: x83 :: x84 :: x85 :: x86 :: x87 :: x88 :: x89 :: x90 :: x91 :: []), []⟩ w3 := by
    intro K HK
    conv => arg 2; whnf
    go_wp2_with (go_at_call 23; refine (turns2_any L p cap fr _ hL (TsAt.below HAT.out HB3.out)).mono ?_; rintro r5 w5 ⟨g5, c5, M5, rfl, hg5, hgl5, hn5, hm5, hl5, hB5⟩; have HN5 := hide' hn5; have HM5 := hide' hm5; have HB5 := hide' hB5; clear hB5 hn5 hm5)
    refine HK.out _ _ ?_
    exact safe_tail L p cap ka sa fr to w w5 hL HAT (bstep HB3.out HB5.out HB3.out.size) hk1 hk2 h3 h4 h5 HARG HLB g4 c4 g5 c5 M4 M5 (HN4.out.below HB5.out HG.out) HN5 ⟨Nat.lt_of_lt_of_le HG.out HB5.out.size, hgl5⟩ HM4 HM5 hl4 (by omega) _ _ _ _ _ _ _ _ _ _ _ _ _ _ _ _ _ _ _ _ _ _ _ _ _ _ _ _ _ _ _ _ _ _ _ _ _ _ _ _ _ _ _ _ _ _ _ _ _ _ _ _ _ _ _ _ _ _ _ _ _ _ _ _ _ _ _ _ _ _ _ _ _ _ _ _ _ _ _ _ _ _
  conv => arg 2; whnf
  refine wp_seq ?_
  exact key _ (fun _ _ h => h)
end Go.Proofs.Ytjnhkiibnmbmfaa
