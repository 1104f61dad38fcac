import Derived.Test.YtligjbcinahgdaaGreatFpm
/-
  PolicyFilters: the statement that makes both twins. (The verifier's own text.)
-/
namespace Go.Proofs.YtligjbcinahgdaaGreat
set_option linter.unusedVariables false
set_option linter.unusedSimpArgs false
open Go.RowKit Go.Shelf Go.Maps Go.Proofs.YtligjbcinahgdaaGreat.Nm

/-- a region of a text -/
def regsF (n : Nat) : Code → List Code
  | .region k o d => bif k == n then [.region k o d] else []
  | .seq a b => regsF n a ++ regsF n b
  | .block _ c => regsF n c
  | .scope c => regsF n c
  | .cond _ a b => regsF n a ++ regsF n b
  | .loop c => regsF n c
  | _ => []
def opsF : Code → Array Oper
  | .region _ o _ => o
  | _ => #[]
set_option maxRecDepth 100000 in
set_option maxHeartbeats 80000000 in
theorem nine_leaf (K : Act → World → Prop) (Q' : Exit → Act → World → Prop) (R : List Ru) (pr : Option Addr) (cr : Nat) (j0 j2 j9 : Int) (k1 k3 k4 k5 k6 k7 k8 : Bool) (r0 s0 t0 v0 : Option Addr) (rc sc tc vc : Nat) (P : List Qn) (Am Um Dm : List Rn) (i0 i2 i9 : Int) (b1 b3 b4 b5 b6 b7 b8 : Bool) (q0 a0 u0 d0 : Option Addr) (qc ac uc dc : Nat) (Q : List Qn) (A U D : List Rn) (R1 R2 : Nat) (rq : Option Addr) (ma mu md e1 ea eu ed : Nat) (sq : Option Addr) (na nu nd f1 fa fu fd : Nat) (w wr cw : World) (fuel : Nat) (x1 x2 x3 x4 x5 x8 x9 x10 x13 x14 x15 x16 x17 x18 x19 x20 x21 x22 x23 x24 x25 x26 x27 x28 x29 x30 x31 x32 x37 x38 x39 x40 x41 x42 x43 x44 x45 x46 x47 x48 x49 x50 x51 x52 x53 x54 x55 x56 x57 x58 x59 x60 x61 x62 x63 x64 x65 x66 x67 x68 x69 x70 x71 x72 x73 x74 x75 x76 x77 x78 x79 x80 x81 x82 x83 : Value) (H2 : Hid (L2 w wr #[.int .i64 j0, .bool k1, .int .i64 j2, .bool k3, .bool k4, .bool k5, .bool k6, .bool k7, .bool k8, .int .i64 j9, .slice r0 P.length rc, .slice s0 Am.length sc, .slice t0 Um.length tc, .slice v0 Dm.length vc] #[.int .i64 i0, .bool b1, .int .i64 i2, .bool b3, .bool b4, .bool b5, .bool b6, .bool b7, .bool b8, .int .i64 i9, .slice q0 Q.length qc, .slice a0 A.length ac, .slice u0 U.length uc, .slice d0 D.length dc])) (HS : Hid (∀ V, Below wr.heap.size wr V → (fun V => V.cell? ⟨w.heap.size, 0, none⟩ = some (.int .i64 j0) ∧ V.cell? ⟨w.heap.size, 1, none⟩ = some (.bool k1) ∧ V.cell? ⟨w.heap.size, 2, none⟩ = some (.int .i64 j2) ∧ V.cell? ⟨w.heap.size, 3, none⟩ = some (.bool k3) ∧ V.cell? ⟨w.heap.size, 4, none⟩ = some (.bool k4) ∧ V.cell? ⟨w.heap.size, 5, none⟩ = some (.bool k5) ∧ V.cell? ⟨w.heap.size, 6, none⟩ = some (.bool k6) ∧ V.cell? ⟨w.heap.size, 7, none⟩ = some (.bool k7) ∧ V.cell? ⟨w.heap.size, 8, none⟩ = some (.bool k8) ∧ V.cell? ⟨w.heap.size, 9, none⟩ = some (.int .i64 j9) ∧ V.cell? ⟨w.heap.size, 10, none⟩ = some (.slice r0 P.length rc) ∧ V.cell? ⟨w.heap.size, 11, none⟩ = some (.slice s0 Am.length sc) ∧ V.cell? ⟨w.heap.size, 12, none⟩ = some (.slice t0 Um.length tc) ∧ V.cell? ⟨w.heap.size, 13, none⟩ = some (.slice v0 Dm.length vc) ∧ V.cell? ⟨w.heap.size + 1, 0, none⟩ = some (.int .i64 i0) ∧ V.cell? ⟨w.heap.size + 1, 1, none⟩ = some (.bool b1) ∧ V.cell? ⟨w.heap.size + 1, 2, none⟩ = some (.int .i64 i2) ∧ V.cell? ⟨w.heap.size + 1, 3, none⟩ = some (.bool b3) ∧ V.cell? ⟨w.heap.size + 1, 4, none⟩ = some (.bool b4) ∧ V.cell? ⟨w.heap.size + 1, 5, none⟩ = some (.bool b5) ∧ V.cell? ⟨w.heap.size + 1, 6, none⟩ = some (.bool b6) ∧ V.cell? ⟨w.heap.size + 1, 7, none⟩ = some (.bool b7) ∧ V.cell? ⟨w.heap.size + 1, 8, none⟩ = some (.bool b8) ∧ V.cell? ⟨w.heap.size + 1, 9, none⟩ = some (.int .i64 i9) ∧ V.cell? ⟨w.heap.size + 1, 10, none⟩ = some (.slice q0 Q.length qc) ∧ V.cell? ⟨w.heap.size + 1, 11, none⟩ = some (.slice a0 A.length ac) ∧ V.cell? ⟨w.heap.size + 1, 12, none⟩ = some (.slice u0 U.length uc) ∧ V.cell? ⟨w.heap.size + 1, 13, none⟩ = some (.slice d0 D.length dc)) V)) (HKK : Hid (∀ (R1 R2 : Nat) (rq : Option Addr) (ma mu md e1 ea eu ed : Nat) (sq : Option Addr) (na nu nd f1 fa fu fd : Nat) (wx : World) (y33 y34 y35 y36 : Value), T9 w wx #[.int .i64 j0, .bool k1, .int .i64 j2, .bool k3, .bool k4, .bool k5, .bool k6, .bool k7, .bool k8, .int .i64 j9, .slice r0 P.length rc, .slice s0 Am.length sc, .slice t0 Um.length tc, .slice v0 Dm.length vc] #[.int .i64 i0, .bool b1, .int .i64 i2, .bool b3, .bool b4, .bool b5, .bool b6, .bool b7, .bool b8, .int .i64 i9, .slice q0 Q.length qc, .slice a0 A.length ac, .slice u0 U.length uc, .slice d0 D.length dc] R1 R2 #[.int .i64 j0, .bool k1, .int .i64 j2, .bool k3, .bool k4, .bool k5, .bool k6, .bool k7, .bool k8, .int .i64 j9, .slice rq P.length e1, .slice (some ⟨ma, 0, none⟩) Am.length ea, .slice (some ⟨mu, 0, none⟩) Um.length eu, .slice (some ⟨md, 0, none⟩) Dm.length ed] #[.int .i64 i0, .bool b1, .int .i64 i2, .bool b3, .bool b4, .bool b5, .bool b6, .bool b7, .bool b8, .int .i64 i9, .slice sq Q.length f1, .slice (some ⟨na, 0, none⟩) A.length fa, .slice (some ⟨nu, 0, none⟩) U.length fu, .slice (some ⟨nd, 0, none⟩) D.length fd] (fun V => Tn4 V rq ma mu md ea eu ed P Am Um Dm) (fun V => Tn4 V sq na nu nd fa fu fd Q A U D) → K ⟨List.toArray ((.slice pr R.length cr : Value) :: x1 :: x2 :: x3 :: x4 :: x5 :: (.pointer (some ⟨w.heap.size, 0, none⟩) : Value) :: (.pointer (some ⟨w.heap.size + 1, 0, none⟩) : Value) :: x8 :: x9 :: x10 :: (.pointer (some ⟨R1, 0, none⟩) : Value) :: (.pointer (some ⟨R2, 0, none⟩) : Value) :: x13 :: x14 :: x15 :: x16 :: x17 :: x18 :: x19 :: x20 :: x21 :: x22 :: x23 :: x24 :: x25 :: x26 :: x27 :: x28 :: x29 :: x30 :: x31 :: x32 :: (y33 : Value) :: (y34 : Value) :: (y35 : Value) :: (y36 : Value) :: x37 :: x38 :: x39 :: x40 :: x41 :: x42 :: x43 :: x44 :: x45 :: x46 :: x47 :: x48 :: x49 :: x50 :: x51 :: x52 :: x53 :: x54 :: x55 :: x56 :: x57 :: x58 :: x59 :: x60 :: x61 :: x62 :: x63 :: x64 :: x65 :: x66 :: x67 :: x68 :: x69 :: x70 :: x71 :: x72 :: x73 :: x74 :: x75 :: x76 :: x77 :: x78 :: x79 :: x80 :: x81 :: x82 :: x83 :: []), []⟩ wx)) (HBc : Hid (Below wr.heap.size wr cw)) (hge1 : wr.heap.size ≤ R1) (hge2 : wr.heap.size ≤ R2) (hne : R1 ≠ R2) (HX1 : Hid (Bx cw R1 #[.int .i64 0, .bool false, .int .i64 0, .bool false, .bool false, .bool false, .bool false, .bool false, .bool false, .int .i64 0, .slice none 0 0, .slice none 0 0, .slice none 0 0, .slice none 0 0] 27)) (HX2 : Hid (Bx cw R2 #[.int .i64 0, .bool false, .int .i64 0, .bool false, .bool false, .bool false, .bool false, .bool false, .bool false, .int .i64 0, .slice none 0 0, .slice none 0 0, .slice none 0 0, .slice none 0 0] 27)) (HTM : Hid (Tn4 cw rq ma mu md ea eu ed P Am Um Dm)) (HTA : Hid (Tn4 cw sq na nu nd fa fu fd Q A U D)) :
    wpAnyH Tryz.prog .any (opsF (((Tryz.f3.body.map (regsF 9)).getD []).getD 0 .skip)) (Exit.then K Q') (fun V => V.cell? ⟨w.heap.size, 0, none⟩ = some (.int .i64 j0) ∧ V.cell? ⟨w.heap.size, 1, none⟩ = some (.bool k1) ∧ V.cell? ⟨w.heap.size, 2, none⟩ = some (.int .i64 j2) ∧ V.cell? ⟨w.heap.size, 3, none⟩ = some (.bool k3) ∧ V.cell? ⟨w.heap.size, 4, none⟩ = some (.bool k4) ∧ V.cell? ⟨w.heap.size, 5, none⟩ = some (.bool k5) ∧ V.cell? ⟨w.heap.size, 6, none⟩ = some (.bool k6) ∧ V.cell? ⟨w.heap.size, 7, none⟩ = some (.bool k7) ∧ V.cell? ⟨w.heap.size, 8, none⟩ = some (.bool k8) ∧ V.cell? ⟨w.heap.size, 9, none⟩ = some (.int .i64 j9) ∧ V.cell? ⟨w.heap.size, 10, none⟩ = some (.slice r0 P.length rc) ∧ V.cell? ⟨w.heap.size, 11, none⟩ = some (.slice s0 Am.length sc) ∧ V.cell? ⟨w.heap.size, 12, none⟩ = some (.slice t0 Um.length tc) ∧ V.cell? ⟨w.heap.size, 13, none⟩ = some (.slice v0 Dm.length vc) ∧ V.cell? ⟨w.heap.size + 1, 0, none⟩ = some (.int .i64 i0) ∧ V.cell? ⟨w.heap.size + 1, 1, none⟩ = some (.bool b1) ∧ V.cell? ⟨w.heap.size + 1, 2, none⟩ = some (.int .i64 i2) ∧ V.cell? ⟨w.heap.size + 1, 3, none⟩ = some (.bool b3) ∧ V.cell? ⟨w.heap.size + 1, 4, none⟩ = some (.bool b4) ∧ V.cell? ⟨w.heap.size + 1, 5, none⟩ = some (.bool b5) ∧ V.cell? ⟨w.heap.size + 1, 6, none⟩ = some (.bool b6) ∧ V.cell? ⟨w.heap.size + 1, 7, none⟩ = some (.bool b7) ∧ V.cell? ⟨w.heap.size + 1, 8, none⟩ = some (.bool b8) ∧ V.cell? ⟨w.heap.size + 1, 9, none⟩ = some (.int .i64 i9) ∧ V.cell? ⟨w.heap.size + 1, 10, none⟩ = some (.slice q0 Q.length qc) ∧ V.cell? ⟨w.heap.size + 1, 11, none⟩ = some (.slice a0 A.length ac) ∧ V.cell? ⟨w.heap.size + 1, 12, none⟩ = some (.slice u0 U.length uc) ∧ V.cell? ⟨w.heap.size + 1, 13, none⟩ = some (.slice d0 D.length dc)) (fuel + 2) #[true, true, true, true, true, true, false, false] ⟨List.toArray ((.slice pr R.length cr : Value) :: x1 :: x2 :: x3 :: x4 :: x5 :: (.pointer (some ⟨w.heap.size, 0, none⟩) : Value) :: (.pointer (some ⟨w.heap.size + 1, 0, none⟩) : Value) :: x8 :: x9 :: x10 :: (.pointer (some ⟨R1, 0, none⟩) : Value) :: (.pointer (some ⟨R2, 0, none⟩) : Value) :: x13 :: x14 :: x15 :: x16 :: x17 :: x18 :: x19 :: x20 :: x21 :: x22 :: x23 :: x24 :: x25 :: x26 :: x27 :: x28 :: x29 :: x30 :: x31 :: x32 :: (.agg #[.int .i64 j0, .bool k1, .int .i64 j2, .bool k3, .bool k4, .bool k5, .bool k6, .bool k7, .bool k8, .int .i64 j9, .slice r0 P.length rc, .slice s0 Am.length sc, .slice t0 Um.length tc, .slice v0 Dm.length vc] : Value) :: (.agg #[.int .i64 j0, .bool k1, .int .i64 j2, .bool k3, .bool k4, .bool k5, .bool k6, .bool k7, .bool k8, .int .i64 j9, .slice rq P.length e1, .slice (some ⟨ma, 0, none⟩) Am.length ea, .slice (some ⟨mu, 0, none⟩) Um.length eu, .slice (some ⟨md, 0, none⟩) Dm.length ed] : Value) :: (.agg #[.int .i64 i0, .bool b1, .int .i64 i2, .bool b3, .bool b4, .bool b5, .bool b6, .bool b7, .bool b8, .int .i64 i9, .slice q0 Q.length qc, .slice a0 A.length ac, .slice u0 U.length uc, .slice d0 D.length dc] : Value) :: (.agg #[.int .i64 i0, .bool b1, .int .i64 i2, .bool b3, .bool b4, .bool b5, .bool b6, .bool b7, .bool b8, .int .i64 i9, .slice sq Q.length f1, .slice (some ⟨na, 0, none⟩) A.length fa, .slice (some ⟨nu, 0, none⟩) U.length fu, .slice (some ⟨nd, 0, none⟩) D.length fd] : Value) :: x37 :: x38 :: x39 :: x40 :: x41 :: x42 :: x43 :: x44 :: x45 :: x46 :: x47 :: x48 :: x49 :: x50 :: x51 :: x52 :: x53 :: x54 :: x55 :: x56 :: x57 :: x58 :: x59 :: x60 :: x61 :: x62 :: x63 :: x64 :: x65 :: x66 :: x67 :: x68 :: x69 :: x70 :: x71 :: x72 :: x73 :: x74 :: x75 :: x76 :: x77 :: x78 :: x79 :: x80 :: x81 :: x82 :: x83 :: []), []⟩ cw := by
  conv => arg 3; whnf
  refine wpAnyH_ready (rs := [6]) (by kernel_rfl) (by simp) ?_
  refine AllReadyH.cons rfl (fun K hK => ?_) AllReadyH.nil
  obtain ⟨rz0, rz1, rz2, rz3, rz4, rz5, rz6, rz7, rz8, rz9, rz10, rz11, rz12, rz13⟩ := bx14 HX1.out
  obtain ⟨fz0, fz1, fz2, fz3, fz4, fz5, fz6, fz7, fz8, fz9, fz10, fz11, fz12, fz13⟩ := bx14_free HX1.out
  obtain ⟨Z1, hZ1⟩ : ∃ W, set14 cw R1 (.int .i64 j0) (.bool k1) (.int .i64 j2) (.bool k3) (.bool k4) (.bool k5) (.bool k6) (.bool k7) (.bool k8) (.int .i64 j9) (.slice rq P.length e1) (.slice (some ⟨ma, 0, none⟩) Am.length ea) (.slice (some ⟨mu, 0, none⟩) Um.length eu) (.slice (some ⟨md, 0, none⟩) Dm.length ed) = W := ⟨_, rfl⟩
  obtain ⟨Z2, hZ2⟩ : ∃ W, set14 Z1 R2 (.int .i64 i0) (.bool b1) (.int .i64 i2) (.bool b3) (.bool b4) (.bool b5) (.bool b6) (.bool b7) (.bool b8) (.int .i64 i9) (.slice sq Q.length f1) (.slice (some ⟨na, 0, none⟩) A.length fa) (.slice (some ⟨nu, 0, none⟩) U.length fu) (.slice (some ⟨nd, 0, none⟩) D.length fd) = W := ⟨_, rfl⟩
  obtain ⟨hyZ, hbZ1, hbZ2, h9⟩ := nine_end (xm := #[]) (xa := #[]) H2.out HBc.out hge1 hge2 hne HX1.out HX2.out HTM.out HTA.out hZ1 hZ2
  have HyZ := hide' hyZ
  have HbZ1 := hide' hbZ1
  have HbZ2 := hide' hbZ2
  have H9 := hide' h9
  clear hyZ hbZ1 hbZ2 h9
  unfold set14 at hZ1 hZ2
  go_simp
  go_wp2_with fail
  refine hK.out _ _ (by first | exact HS.out _ HbZ1.out | exact HS.out _ HbZ1.out.drew) (fun hHeld => ?_)
  clear hK K hZ1
  try simp only [Act.put, List.setIfInBounds_toArray, List.set_cons_zero, List.set_cons_succ]
  refine wpAnyH_ready (rs := [7]) (by kernel_rfl) (by simp) ?_
  refine AllReadyH.cons rfl (fun K hK => ?_) AllReadyH.nil
  obtain ⟨rz0, rz1, rz2, rz3, rz4, rz5, rz6, rz7, rz8, rz9, rz10, rz11, rz12, rz13⟩ := bx14 HyZ.out
  obtain ⟨fz0, fz1, fz2, fz3, fz4, fz5, fz6, fz7, fz8, fz9, fz10, fz11, fz12, fz13⟩ := bx14_free HyZ.out
  go_simp
  go_wp2_with fail
  refine hK.out _ _ (by first | exact HS.out _ HbZ2.out | exact HS.out _ HbZ2.out.drew) (fun hHeld => ?_)
  clear hK K hZ2
  try simp only [Act.put, List.setIfInBounds_toArray, List.set_cons_zero, List.set_cons_succ]
  refine wpAnyH_done (by kernel_rfl) ?_ _
  go_wp2_with fail
  exact HKK.out R1 R2 rq ma mu md e1 ea eu ed sq na nu nd f1 fa fu fd _ _ _ _ _ (by first | exact H9.out | exact H9.out.drewP)
set_option maxRecDepth 100000 in
set_option maxHeartbeats 80000000 in
theorem filters_nine (K' : Act → World → Prop) (Q' : Exit → Act → World → Prop) (HQ : ∀ c (a : Act) (d : Tmp) (v : Value) w, Q' (.panic c) (a.put (some d) v) w → Q' (.panic c) a w) (R : List Ru) (pr : Option Addr) (cr : Nat) (j0 j2 j9 : Int) (k1 k3 k4 k5 k6 k7 k8 : Bool) (r0 s0 t0 v0 : Option Addr) (rc sc tc vc : Nat) (P : List Qn) (Am Um Dm : List Rn) (i0 i2 i9 : Int) (b1 b3 b4 b5 b6 b7 b8 : Bool) (q0 a0 u0 d0 : Option Addr) (qc ac uc dc : Nat) (Q : List Qn) (A U D : List Rn) (w wr : World) (hm : LsAt w r0 s0 t0 v0 P Am Um Dm) (hmn : (r0 = none → rc = 0) ∧ (s0 = none → sc = 0) ∧ (t0 = none → tc = 0) ∧ (v0 = none → vc = 0)) (hml : P.length ≤ 1048576 ∧ Am.length ≤ 1048576 ∧ Um.length ≤ 1048576 ∧ Dm.length ≤ 1048576) (hmq : ∀ q ∈ P, q.n.size ≤ 1048576) (hl : LsAt w q0 a0 u0 d0 Q A U D) (hln' : (q0 = none → qc = 0) ∧ (a0 = none → ac = 0) ∧ (u0 = none → uc = 0) ∧ (d0 = none → dc = 0)) (hln : Q.length ≤ 1048576 ∧ A.length ≤ 1048576 ∧ U.length ≤ 1048576 ∧ D.length ≤ 1048576) (H2 : Hid (L2 w wr #[.int .i64 j0, .bool k1, .int .i64 j2, .bool k3, .bool k4, .bool k5, .bool k6, .bool k7, .bool k8, .int .i64 j9, .slice r0 P.length rc, .slice s0 Am.length sc, .slice t0 Um.length tc, .slice v0 Dm.length vc] #[.int .i64 i0, .bool b1, .int .i64 i2, .bool b3, .bool b4, .bool b5, .bool b6, .bool b7, .bool b8, .int .i64 i9, .slice q0 Q.length qc, .slice a0 A.length ac, .slice u0 U.length uc, .slice d0 D.length dc])) (x1 x2 x3 x4 x5 x8 x9 x10 x11 x12 x13 x14 x15 x16 x17 x18 x19 x20 x21 x22 x23 x24 x25 x26 x27 x28 x29 x30 x31 x32 x33 x34 x35 x36 x37 x38 x39 x40 x41 x42 x43 x44 x45 x46 x47 x48 x49 x50 x51 x52 x53 x54 x55 x56 x57 x58 x59 x60 x61 x62 x63 x64 x65 x66 x67 x68 x69 x70 x71 x72 x73 x74 x75 x76 x77 x78 x79 x80 x81 x82 x83 : Value) (HKK : Hid (∀ (R1 R2 : Nat) (rq : Option Addr) (ma mu md e1 ea eu ed : Nat) (sq : Option Addr) (na nu nd f1 fa fu fd : Nat) (wx : World) (y33 y34 y35 y36 : Value), T9 w wx #[.int .i64 j0, .bool k1, .int .i64 j2, .bool k3, .bool k4, .bool k5, .bool k6, .bool k7, .bool k8, .int .i64 j9, .slice r0 P.length rc, .slice s0 Am.length sc, .slice t0 Um.length tc, .slice v0 Dm.length vc] #[.int .i64 i0, .bool b1, .int .i64 i2, .bool b3, .bool b4, .bool b5, .bool b6, .bool b7, .bool b8, .int .i64 i9, .slice q0 Q.length qc, .slice a0 A.length ac, .slice u0 U.length uc, .slice d0 D.length dc] R1 R2 #[.int .i64 j0, .bool k1, .int .i64 j2, .bool k3, .bool k4, .bool k5, .bool k6, .bool k7, .bool k8, .int .i64 j9, .slice rq P.length e1, .slice (some ⟨ma, 0, none⟩) Am.length ea, .slice (some ⟨mu, 0, none⟩) Um.length eu, .slice (some ⟨md, 0, none⟩) Dm.length ed] #[.int .i64 i0, .bool b1, .int .i64 i2, .bool b3, .bool b4, .bool b5, .bool b6, .bool b7, .bool b8, .int .i64 i9, .slice sq Q.length f1, .slice (some ⟨na, 0, none⟩) A.length fa, .slice (some ⟨nu, 0, none⟩) U.length fu, .slice (some ⟨nd, 0, none⟩) D.length fd] (fun V => Tn4 V rq ma mu md ea eu ed P Am Um Dm) (fun V => Tn4 V sq na nu nd fa fu fd Q A U D) → K' ⟨List.toArray ((.slice pr R.length cr : Value) :: x1 :: x2 :: x3 :: x4 :: x5 :: (.pointer (some ⟨w.heap.size, 0, none⟩) : Value) :: (.pointer (some ⟨w.heap.size + 1, 0, none⟩) : Value) :: x8 :: x9 :: x10 :: (.pointer (some ⟨R1, 0, none⟩) : Value) :: (.pointer (some ⟨R2, 0, none⟩) : Value) :: x13 :: x14 :: x15 :: x16 :: x17 :: x18 :: x19 :: x20 :: x21 :: x22 :: x23 :: x24 :: x25 :: x26 :: x27 :: x28 :: x29 :: x30 :: x31 :: x32 :: (y33 : Value) :: (y34 : Value) :: (y35 : Value) :: (y36 : Value) :: x37 :: x38 :: x39 :: x40 :: x41 :: x42 :: x43 :: x44 :: x45 :: x46 :: x47 :: x48 :: x49 :: x50 :: x51 :: x52 :: x53 :: x54 :: x55 :: x56 :: x57 :: x58 :: x59 :: x60 :: x61 :: x62 :: x63 :: x64 :: x65 :: x66 :: x67 :: x68 :: x69 :: x70 :: x71 :: x72 :: x73 :: x74 :: x75 :: x76 :: x77 :: x78 :: x79 :: x80 :: x81 :: x82 :: x83 :: []), []⟩ wx)) :
    Code.wp Tryz.prog (((Tryz.f3.body.map (regsF 9)).getD []).getD 0 .skip) (Exit.then K' Q') ⟨List.toArray ((.slice pr R.length cr : Value) :: x1 :: x2 :: x3 :: x4 :: x5 :: (.pointer (some ⟨w.heap.size, 0, none⟩) : Value) :: (.pointer (some ⟨w.heap.size + 1, 0, none⟩) : Value) :: x8 :: x9 :: x10 :: x11 :: x12 :: x13 :: x14 :: x15 :: x16 :: x17 :: x18 :: x19 :: x20 :: x21 :: x22 :: x23 :: x24 :: x25 :: x26 :: x27 :: x28 :: x29 :: x30 :: x31 :: x32 :: x33 :: x34 :: x35 :: x36 :: x37 :: x38 :: x39 :: x40 :: x41 :: x42 :: x43 :: x44 :: x45 :: x46 :: x47 :: x48 :: x49 :: x50 :: x51 :: x52 :: x53 :: x54 :: x55 :: x56 :: x57 :: x58 :: x59 :: x60 :: x61 :: x62 :: x63 :: x64 :: x65 :: x66 :: x67 :: x68 :: x69 :: x70 :: x71 :: x72 :: x73 :: x74 :: x75 :: x76 :: x77 :: x78 :: x79 :: x80 :: x81 :: x82 :: x83 :: []), []⟩ wr := by
  have HTm : Hid (∀ V, Below w.heap.size w V → Calls Tryz.prog 7 #[.agg #[.int .i64 j0, .bool k1, .int .i64 j2, .bool k3, .bool k4, .bool k5, .bool k6, .bool k7, .bool k8, .int .i64 j9, .slice r0 P.length rc, .slice s0 Am.length sc, .slice t0 Um.length tc, .slice v0 Dm.length vc]] V fun e w' => ∃ rq ma mu md e1 ea eu ed, e = .returned (.agg #[.int .i64 j0, .bool k1, .int .i64 j2, .bool k3, .bool k4, .bool k5, .bool k6, .bool k7, .bool k8, .int .i64 j9, .slice rq P.length e1, .slice (some ⟨ma, 0, none⟩) Am.length ea, .slice (some ⟨mu, 0, none⟩) Um.length eu, .slice (some ⟨md, 0, none⟩) Dm.length ed]) ∧ Tn4 w' rq ma mu md ea eu ed P Am Um Dm ∧ Below V.heap.size V w') := fun V hV => twinM_any j0 j2 j9 k1 k3 k4 k5 k6 k7 k8 r0 s0 t0 v0 rc sc tc vc P Am Um Dm V (hm.below hV) hmn.1 hmn.2 hml
  have HTa : Hid (∀ V, Below w.heap.size w V → Calls Tryz.prog 7 #[.agg #[.int .i64 i0, .bool b1, .int .i64 i2, .bool b3, .bool b4, .bool b5, .bool b6, .bool b7, .bool b8, .int .i64 i9, .slice q0 Q.length qc, .slice a0 A.length ac, .slice u0 U.length uc, .slice d0 D.length dc]] V fun e w' => ∃ sq na nu nd f1 fa fu fd, e = .returned (.agg #[.int .i64 i0, .bool b1, .int .i64 i2, .bool b3, .bool b4, .bool b5, .bool b6, .bool b7, .bool b8, .int .i64 i9, .slice sq Q.length f1, .slice (some ⟨na, 0, none⟩) A.length fa, .slice (some ⟨nu, 0, none⟩) U.length fu, .slice (some ⟨nd, 0, none⟩) D.length fd]) ∧ Tn4 w' sq na nu nd fa fu fd Q A U D ∧ Below V.heap.size V w') := fun V hV => twinM_any i0 i2 i9 b1 b3 b4 b5 b6 b7 b8 q0 a0 u0 d0 qc ac uc dc Q A U D V (hl.below hV) hln'.1 hln'.2 hln
  have HS : Hid (∀ V, Below wr.heap.size wr V → (fun V => V.cell? ⟨w.heap.size, 0, none⟩ = some (.int .i64 j0) ∧ V.cell? ⟨w.heap.size, 1, none⟩ = some (.bool k1) ∧ V.cell? ⟨w.heap.size, 2, none⟩ = some (.int .i64 j2) ∧ V.cell? ⟨w.heap.size, 3, none⟩ = some (.bool k3) ∧ V.cell? ⟨w.heap.size, 4, none⟩ = some (.bool k4) ∧ V.cell? ⟨w.heap.size, 5, none⟩ = some (.bool k5) ∧ V.cell? ⟨w.heap.size, 6, none⟩ = some (.bool k6) ∧ V.cell? ⟨w.heap.size, 7, none⟩ = some (.bool k7) ∧ V.cell? ⟨w.heap.size, 8, none⟩ = some (.bool k8) ∧ V.cell? ⟨w.heap.size, 9, none⟩ = some (.int .i64 j9) ∧ V.cell? ⟨w.heap.size, 10, none⟩ = some (.slice r0 P.length rc) ∧ V.cell? ⟨w.heap.size, 11, none⟩ = some (.slice s0 Am.length sc) ∧ V.cell? ⟨w.heap.size, 12, none⟩ = some (.slice t0 Um.length tc) ∧ V.cell? ⟨w.heap.size, 13, none⟩ = some (.slice v0 Dm.length vc) ∧ V.cell? ⟨w.heap.size + 1, 0, none⟩ = some (.int .i64 i0) ∧ V.cell? ⟨w.heap.size + 1, 1, none⟩ = some (.bool b1) ∧ V.cell? ⟨w.heap.size + 1, 2, none⟩ = some (.int .i64 i2) ∧ V.cell? ⟨w.heap.size + 1, 3, none⟩ = some (.bool b3) ∧ V.cell? ⟨w.heap.size + 1, 4, none⟩ = some (.bool b4) ∧ V.cell? ⟨w.heap.size + 1, 5, none⟩ = some (.bool b5) ∧ V.cell? ⟨w.heap.size + 1, 6, none⟩ = some (.bool b6) ∧ V.cell? ⟨w.heap.size + 1, 7, none⟩ = some (.bool b7) ∧ V.cell? ⟨w.heap.size + 1, 8, none⟩ = some (.bool b8) ∧ V.cell? ⟨w.heap.size + 1, 9, none⟩ = some (.int .i64 i9) ∧ V.cell? ⟨w.heap.size + 1, 10, none⟩ = some (.slice q0 Q.length qc) ∧ V.cell? ⟨w.heap.size + 1, 11, none⟩ = some (.slice a0 A.length ac) ∧ V.cell? ⟨w.heap.size + 1, 12, none⟩ = some (.slice u0 U.length uc) ∧ V.cell? ⟨w.heap.size + 1, 13, none⟩ = some (.slice d0 D.length dc)) V) := fun V hV => by
    obtain ⟨x0, x1, x2, x3, x4, x5, x6, x7, x8, x9, x10, x11, x12, x13⟩ := bx14 (H2.out.step hV).m
    obtain ⟨y0, y1, y2, y3, y4, y5, y6, y7, y8, y9, y10, y11, y12, y13⟩ := bx14 (H2.out.step hV).a
    exact ⟨x0, x1, x2, x3, x4, x5, x6, x7, x8, x9, x10, x11, x12, x13, y0, y1, y2, y3, y4, y5, y6, y7, y8, y9, y10, y11, y12, y13⟩
  clear hm hmn hml hmq hl hln' hln
  conv => arg 2; whnf
  have hS0 := HS.out _ (Below.refl wr.heap.size wr)
  have HB0 := hide' (Below.refl wr.heap.size wr)
  refine wp_region_held_drew (S := (fun V => V.cell? ⟨w.heap.size, 0, none⟩ = some (.int .i64 j0) ∧ V.cell? ⟨w.heap.size, 1, none⟩ = some (.bool k1) ∧ V.cell? ⟨w.heap.size, 2, none⟩ = some (.int .i64 j2) ∧ V.cell? ⟨w.heap.size, 3, none⟩ = some (.bool k3) ∧ V.cell? ⟨w.heap.size, 4, none⟩ = some (.bool k4) ∧ V.cell? ⟨w.heap.size, 5, none⟩ = some (.bool k5) ∧ V.cell? ⟨w.heap.size, 6, none⟩ = some (.bool k6) ∧ V.cell? ⟨w.heap.size, 7, none⟩ = some (.bool k7) ∧ V.cell? ⟨w.heap.size, 8, none⟩ = some (.bool k8) ∧ V.cell? ⟨w.heap.size, 9, none⟩ = some (.int .i64 j9) ∧ V.cell? ⟨w.heap.size, 10, none⟩ = some (.slice r0 P.length rc) ∧ V.cell? ⟨w.heap.size, 11, none⟩ = some (.slice s0 Am.length sc) ∧ V.cell? ⟨w.heap.size, 12, none⟩ = some (.slice t0 Um.length tc) ∧ V.cell? ⟨w.heap.size, 13, none⟩ = some (.slice v0 Dm.length vc) ∧ V.cell? ⟨w.heap.size + 1, 0, none⟩ = some (.int .i64 i0) ∧ V.cell? ⟨w.heap.size + 1, 1, none⟩ = some (.bool b1) ∧ V.cell? ⟨w.heap.size + 1, 2, none⟩ = some (.int .i64 i2) ∧ V.cell? ⟨w.heap.size + 1, 3, none⟩ = some (.bool b3) ∧ V.cell? ⟨w.heap.size + 1, 4, none⟩ = some (.bool b4) ∧ V.cell? ⟨w.heap.size + 1, 5, none⟩ = some (.bool b5) ∧ V.cell? ⟨w.heap.size + 1, 6, none⟩ = some (.bool b6) ∧ V.cell? ⟨w.heap.size + 1, 7, none⟩ = some (.bool b7) ∧ V.cell? ⟨w.heap.size + 1, 8, none⟩ = some (.bool b8) ∧ V.cell? ⟨w.heap.size + 1, 9, none⟩ = some (.int .i64 i9) ∧ V.cell? ⟨w.heap.size + 1, 10, none⟩ = some (.slice q0 Q.length qc) ∧ V.cell? ⟨w.heap.size + 1, 11, none⟩ = some (.slice a0 A.length ac) ∧ V.cell? ⟨w.heap.size + 1, 12, none⟩ = some (.slice u0 U.length uc) ∧ V.cell? ⟨w.heap.size + 1, 13, none⟩ = some (.slice d0 D.length dc))) (by kernel_rfl) ?_ (fun hHeld => ?_)
  · exact hS0
  refine takeD 0 (some 33) (.agg #[.int .i64 j0, .bool k1, .int .i64 j2, .bool k3, .bool k4, .bool k5, .bool k6, .bool k7, .bool k8, .int .i64 j9, .slice r0 P.length rc, .slice s0 Am.length sc, .slice t0 Um.length tc, .slice v0 Dm.length vc]) rfl rfl (by kernel_rfl) (by kernel_rfl) (by kernel_rfl) (fun c a w h => HQ c a _ _ w h) (Or.inl ⟨by rfl, ?_⟩) (by assumption) ?_
  · intro w hSw; (try dsimp only at hSw); go_simp <;> (intros; omega)
  simp only [Act.put, List.setIfInBounds_toArray, List.set_cons_zero, List.set_cons_succ]
  refine takeD 2 (some 35) (.agg #[.int .i64 i0, .bool b1, .int .i64 i2, .bool b3, .bool b4, .bool b5, .bool b6, .bool b7, .bool b8, .int .i64 i9, .slice q0 Q.length qc, .slice a0 A.length ac, .slice u0 U.length uc, .slice d0 D.length dc]) rfl rfl (by kernel_rfl) (by kernel_rfl) (by kernel_rfl) (fun c a w h => HQ c a _ _ w h) (Or.inl ⟨by rfl, ?_⟩) (by assumption) ?_
  · intro w hSw; (try dsimp only at hSw); go_simp <;> (intros; omega)
  simp only [Act.put, List.setIfInBounds_toArray, List.set_cons_zero, List.set_cons_succ]
  refine wpAnyH_ready (rs := [1, 4, 5]) (by kernel_rfl) (by simp) ?_
  refine AllReadyH.cons rfl (fun K hK => ?_) (AllReadyH.cons rfl (fun K hK => ?_) (AllReadyH.cons rfl (fun K hK => ?_) AllReadyH.nil))
  · go_simp
    go_at_call 7; (first | with_reducible refine (HTm.out _ (H2.out.step HB0.out).b).mono ?_ | with_reducible refine (HTm.out _ (H2.out.step HB0.out).b.drew).mono ?_); rintro e wt149 ⟨rq, ma, mu, md, e1, ea, eu, ed, rfl, ht, hB⟩
    have HBt149 := hide' (below_any HB0.out hB (by first | exact .inl rfl | exact .inr rfl) HB0.out.size)
    have TM_150 := hide' ht
    clear ht hB
    go_wp2_with fail
    refine hK.out _ _ (HS.out _ HBt149.out) (fun hHeld => ?_)
    clear hK K
    try simp only [Act.put, List.setIfInBounds_toArray, List.set_cons_zero, List.set_cons_succ]
    refine wpAnyH_ready (rs := [3, 4, 5]) (by kernel_rfl) (by simp) ?_
    refine AllReadyH.cons rfl (fun K hK => ?_) (AllReadyH.cons rfl (fun K hK => ?_) (AllReadyH.cons rfl (fun K hK => ?_) AllReadyH.nil))
    · go_simp
      go_at_call 7; (first | with_reducible refine (HTa.out _ (H2.out.step HBt149.out).b).mono ?_ | with_reducible refine (HTa.out _ (H2.out.step HBt149.out).b.drew).mono ?_); rintro e wt151 ⟨sq, na, nu, nd, f1, fa, fu, fd, rfl, ht, hB⟩
      have HBt151 := hide' (below_any HBt149.out hB (by first | exact .inl rfl | exact .inr rfl) HBt149.out.size)
      have TM_152 : Hid (Tn4 wt151 rq ma mu md ea eu ed P Am Um Dm) := by unfold Hid; first | exact TM_150.out.below hB | exact (tn_drewF TM_150.out).below hB
      have TA_153 := hide' ht
      clear ht hB
      go_wp2_with fail
      refine hK.out _ _ (HS.out _ HBt151.out) (fun hHeld => ?_)
      clear hK K
      try simp only [Act.put, List.setIfInBounds_toArray, List.set_cons_zero, List.set_cons_succ]
      refine wpAnyH_ready (rs := [4, 5]) (by kernel_rfl) (by simp) ?_
      refine AllReadyH.cons rfl (fun K hK => ?_) (AllReadyH.cons rfl (fun K hK => ?_) AllReadyH.nil)
      · go_simp
        obtain ⟨wy154, hY⟩ : ∃ W, World.alloc wt151 (.cells #[.int .i64 0, .bool false, .int .i64 0, .bool false, .bool false, .bool false, .bool false, .bool false, .bool false, .int .i64 0, .slice none 0 0, .slice none 0 0, .slice none 0 0, .slice none 0 0] 27) = W := ⟨_, rfl⟩
        obtain ⟨R1, hR'⟩ : ∃ z, (World.heap wt151).size = z := ⟨_, rfl⟩
        have hB := alloc_belF hY
        have HBy154 := hide' (bstep HBt151.out hB HBt151.out.size)
        have TM_155 : Hid (Tn4 wy154 rq ma mu md ea eu ed P Am Um Dm) := by unfold Hid; first | exact TM_152.out.below hB | exact (tn_drewF TM_152.out).below hB
        have TA_156 : Hid (Tn4 wy154 sq na nu nd fa fu fd Q A U D) := by unfold Hid; first | exact TA_153.out.below hB | exact (tn_drewF TA_153.out).below hB
        have X1_157 : Hid (Bx wy154 R1 #[.int .i64 0, .bool false, .int .i64 0, .bool false, .bool false, .bool false, .bool false, .bool false, .bool false, .int .i64 0, .slice none 0 0, .slice none 0 0, .slice none 0 0, .slice none 0 0] 27) := by rw [← hY, ← hR']; exact World.alloc_heap_new wt151 _
        have hge1 : wr.heap.size ≤ R1 := by rw [← hR']; exact HBt151.out.size
        simp only [hY, hR']
        clear hY hR' hB
        refine hK.out _ _ (by first | exact HS.out _ HBy154.out | exact HS.out _ HBy154.out.drew) (fun hHeld => ?_)
        clear hK K
        try simp only [Act.put, List.setIfInBounds_toArray, List.set_cons_zero, List.set_cons_succ]
        refine wpAnyH_ready (rs := [5]) (by kernel_rfl) (by simp) ?_
        refine AllReadyH.cons rfl (fun K hK => ?_) AllReadyH.nil
        · go_simp
          obtain ⟨wy158, hY⟩ : ∃ W, World.alloc wy154 (.cells #[.int .i64 0, .bool false, .int .i64 0, .bool false, .bool false, .bool false, .bool false, .bool false, .bool false, .int .i64 0, .slice none 0 0, .slice none 0 0, .slice none 0 0, .slice none 0 0] 27) = W := ⟨_, rfl⟩
          obtain ⟨R2, hR'⟩ : ∃ z, (World.heap wy154).size = z := ⟨_, rfl⟩
          have hB := alloc_belF hY
          have HBy158 := hide' (bstep HBy154.out hB HBy154.out.size)
          have TM_159 : Hid (Tn4 wy158 rq ma mu md ea eu ed P Am Um Dm) := by unfold Hid; first | exact TM_155.out.below hB | exact (tn_drewF TM_155.out).below hB
          have TA_160 : Hid (Tn4 wy158 sq na nu nd fa fu fd Q A U D) := by unfold Hid; first | exact TA_156.out.below hB | exact (tn_drewF TA_156.out).below hB
          have X1_161 : Hid (Bx wy158 R1 #[.int .i64 0, .bool false, .int .i64 0, .bool false, .bool false, .bool false, .bool false, .bool false, .bool false, .int .i64 0, .slice none 0 0, .slice none 0 0, .slice none 0 0, .slice none 0 0] 27) := by unfold Hid; first | exact X1_157.out.below hB X1_157.out.lt | exact (bx_drewF X1_157.out).below hB (bx_drewF X1_157.out).lt
          have X2_162 : Hid (Bx wy158 R2 #[.int .i64 0, .bool false, .int .i64 0, .bool false, .bool false, .bool false, .bool false, .bool false, .bool false, .int .i64 0, .slice none 0 0, .slice none 0 0, .slice none 0 0, .slice none 0 0] 27) := by rw [← hY, ← hR']; exact World.alloc_heap_new wy154 _
          have hge2 : wr.heap.size ≤ R2 := by rw [← hR']; exact HBy154.out.size
          have hne : R1 ≠ R2 := by have := X1_157.out.lt; rw [hR'] at this; omega
          simp only [hY, hR']
          clear hY hR' hB
          refine hK.out _ _ (by first | exact HS.out _ HBy158.out | exact HS.out _ HBy158.out.drew) (fun hHeld => ?_)
          clear hK K
          try simp only [Act.put, List.setIfInBounds_toArray, List.set_cons_zero, List.set_cons_succ]
          exact nine_leaf K' Q' R pr cr j0 j2 j9 k1 k3 k4 k5 k6 k7 k8 r0 s0 t0 v0 rc sc tc vc P Am Um Dm i0 i2 i9 b1 b3 b4 b5 b6 b7 b8 q0 a0 u0 d0 qc ac uc dc Q A U D R1 R2 rq ma mu md e1 ea eu ed sq na nu nd f1 fa fu fd w wr wy158 _ _ _ _ _ _ _ _ _ _ _ _ _ _ _ _ _ _ _ _ _ _ _ _ _ _ _ _ _ _ _ _ _ _ _ _ _ _ _ _ _ _ _ _ _ _ _ _ _ _ _ _ _ _ _ _ _ _ _ _ _ _ _ _ _ _ _ _ _ _ _ _ _ _ _ _ H2 HS HKK HBy158 hge1 hge2 hne X1_161 X2_162 TM_159 TA_160
      · go_simp
        obtain ⟨wy163, hY⟩ : ∃ W, World.alloc wt151 (.cells #[.int .i64 0, .bool false, .int .i64 0, .bool false, .bool false, .bool false, .bool false, .bool false, .bool false, .int .i64 0, .slice none 0 0, .slice none 0 0, .slice none 0 0, .slice none 0 0] 27) = W := ⟨_, rfl⟩
        obtain ⟨R2, hR'⟩ : ∃ z, (World.heap wt151).size = z := ⟨_, rfl⟩
        have hB := alloc_belF hY
        have HBy163 := hide' (bstep HBt151.out hB HBt151.out.size)
        have TM_164 : Hid (Tn4 wy163 rq ma mu md ea eu ed P Am Um Dm) := by unfold Hid; first | exact TM_152.out.below hB | exact (tn_drewF TM_152.out).below hB
        have TA_165 : Hid (Tn4 wy163 sq na nu nd fa fu fd Q A U D) := by unfold Hid; first | exact TA_153.out.below hB | exact (tn_drewF TA_153.out).below hB
        have X2_166 : Hid (Bx wy163 R2 #[.int .i64 0, .bool false, .int .i64 0, .bool false, .bool false, .bool false, .bool false, .bool false, .bool false, .int .i64 0, .slice none 0 0, .slice none 0 0, .slice none 0 0, .slice none 0 0] 27) := by rw [← hY, ← hR']; exact World.alloc_heap_new wt151 _
        have hge2 : wr.heap.size ≤ R2 := by rw [← hR']; exact HBt151.out.size
        simp only [hY, hR']
        clear hY hR' hB
        refine hK.out _ _ (by first | exact HS.out _ HBy163.out | exact HS.out _ HBy163.out.drew) (fun hHeld => ?_)
        clear hK K
        try simp only [Act.put, List.setIfInBounds_toArray, List.set_cons_zero, List.set_cons_succ]
        refine wpAnyH_ready (rs := [4]) (by kernel_rfl) (by simp) ?_
        refine AllReadyH.cons rfl (fun K hK => ?_) AllReadyH.nil
        · go_simp
          obtain ⟨wy167, hY⟩ : ∃ W, World.alloc wy163 (.cells #[.int .i64 0, .bool false, .int .i64 0, .bool false, .bool false, .bool false, .bool false, .bool false, .bool false, .int .i64 0, .slice none 0 0, .slice none 0 0, .slice none 0 0, .slice none 0 0] 27) = W := ⟨_, rfl⟩
          obtain ⟨R1, hR'⟩ : ∃ z, (World.heap wy163).size = z := ⟨_, rfl⟩
          have hB := alloc_belF hY
          have HBy167 := hide' (bstep HBy163.out hB HBy163.out.size)
          have TM_168 : Hid (Tn4 wy167 rq ma mu md ea eu ed P Am Um Dm) := by unfold Hid; first | exact TM_164.out.below hB | exact (tn_drewF TM_164.out).below hB
          have TA_169 : Hid (Tn4 wy167 sq na nu nd fa fu fd Q A U D) := by unfold Hid; first | exact TA_165.out.below hB | exact (tn_drewF TA_165.out).below hB
          have X2_170 : Hid (Bx wy167 R2 #[.int .i64 0, .bool false, .int .i64 0, .bool false, .bool false, .bool false, .bool false, .bool false, .bool false, .int .i64 0, .slice none 0 0, .slice none 0 0, .slice none 0 0, .slice none 0 0] 27) := by unfold Hid; first | exact X2_166.out.below hB X2_166.out.lt | exact (bx_drewF X2_166.out).below hB (bx_drewF X2_166.out).lt
          have X1_171 : Hid (Bx wy167 R1 #[.int .i64 0, .bool false, .int .i64 0, .bool false, .bool false, .bool false, .bool false, .bool false, .bool false, .int .i64 0, .slice none 0 0, .slice none 0 0, .slice none 0 0, .slice none 0 0] 27) := by rw [← hY, ← hR']; exact World.alloc_heap_new wy163 _
          have hge1 : wr.heap.size ≤ R1 := by rw [← hR']; exact HBy163.out.size
          have hne : R1 ≠ R2 := by have := X2_166.out.lt; rw [hR'] at this; omega
          simp only [hY, hR']
          clear hY hR' hB
          refine hK.out _ _ (by first | exact HS.out _ HBy167.out | exact HS.out _ HBy167.out.drew) (fun hHeld => ?_)
          clear hK K
          try simp only [Act.put, List.setIfInBounds_toArray, List.set_cons_zero, List.set_cons_succ]
          exact nine_leaf K' Q' R pr cr j0 j2 j9 k1 k3 k4 k5 k6 k7 k8 r0 s0 t0 v0 rc sc tc vc P Am Um Dm i0 i2 i9 b1 b3 b4 b5 b6 b7 b8 q0 a0 u0 d0 qc ac uc dc Q A U D R1 R2 rq ma mu md e1 ea eu ed sq na nu nd f1 fa fu fd w wr wy167 _ _ _ _ _ _ _ _ _ _ _ _ _ _ _ _ _ _ _ _ _ _ _ _ _ _ _ _ _ _ _ _ _ _ _ _ _ _ _ _ _ _ _ _ _ _ _ _ _ _ _ _ _ _ _ _ _ _ _ _ _ _ _ _ _ _ _ _ _ _ _ _ _ _ _ _ H2 HS HKK HBy167 hge1 hge2 hne X1_171 X2_170 TM_168 TA_169
    · go_simp
      obtain ⟨wy172, hY⟩ : ∃ W, World.alloc wt149 (.cells #[.int .i64 0, .bool false, .int .i64 0, .bool false, .bool false, .bool false, .bool false, .bool false, .bool false, .int .i64 0, .slice none 0 0, .slice none 0 0, .slice none 0 0, .slice none 0 0] 27) = W := ⟨_, rfl⟩
      obtain ⟨R1, hR'⟩ : ∃ z, (World.heap wt149).size = z := ⟨_, rfl⟩
      have hB := alloc_belF hY
      have HBy172 := hide' (bstep HBt149.out hB HBt149.out.size)
      have TM_173 : Hid (Tn4 wy172 rq ma mu md ea eu ed P Am Um Dm) := by unfold Hid; first | exact TM_150.out.below hB | exact (tn_drewF TM_150.out).below hB
      have X1_174 : Hid (Bx wy172 R1 #[.int .i64 0, .bool false, .int .i64 0, .bool false, .bool false, .bool false, .bool false, .bool false, .bool false, .int .i64 0, .slice none 0 0, .slice none 0 0, .slice none 0 0, .slice none 0 0] 27) := by rw [← hY, ← hR']; exact World.alloc_heap_new wt149 _
      have hge1 : wr.heap.size ≤ R1 := by rw [← hR']; exact HBt149.out.size
      simp only [hY, hR']
      clear hY hR' hB
      refine hK.out _ _ (by first | exact HS.out _ HBy172.out | exact HS.out _ HBy172.out.drew) (fun hHeld => ?_)
      clear hK K
      try simp only [Act.put, List.setIfInBounds_toArray, List.set_cons_zero, List.set_cons_succ]
      refine wpAnyH_ready (rs := [3, 5]) (by kernel_rfl) (by simp) ?_
      refine AllReadyH.cons rfl (fun K hK => ?_) (AllReadyH.cons rfl (fun K hK => ?_) AllReadyH.nil)
      · go_simp
        go_at_call 7; (first | with_reducible refine (HTa.out _ (H2.out.step HBy172.out).b).mono ?_ | with_reducible refine (HTa.out _ (H2.out.step HBy172.out).b.drew).mono ?_); rintro e wt175 ⟨sq, na, nu, nd, f1, fa, fu, fd, rfl, ht, hB⟩
        have HBt175 := hide' (below_any HBy172.out hB (by first | exact .inl rfl | exact .inr rfl) HBy172.out.size)
        have TM_176 : Hid (Tn4 wt175 rq ma mu md ea eu ed P Am Um Dm) := by unfold Hid; first | exact TM_173.out.below hB | exact (tn_drewF TM_173.out).below hB
        have X1_177 : Hid (Bx wt175 R1 #[.int .i64 0, .bool false, .int .i64 0, .bool false, .bool false, .bool false, .bool false, .bool false, .bool false, .int .i64 0, .slice none 0 0, .slice none 0 0, .slice none 0 0, .slice none 0 0] 27) := by unfold Hid; first | exact X1_174.out.below hB X1_174.out.lt | exact (bx_drewF X1_174.out).below hB (bx_drewF X1_174.out).lt
        have TA_178 := hide' ht
        clear ht hB
        go_wp2_with fail
        refine hK.out _ _ (HS.out _ HBt175.out) (fun hHeld => ?_)
        clear hK K
        try simp only [Act.put, List.setIfInBounds_toArray, List.set_cons_zero, List.set_cons_succ]
        refine wpAnyH_ready (rs := [5]) (by kernel_rfl) (by simp) ?_
        refine AllReadyH.cons rfl (fun K hK => ?_) AllReadyH.nil
        · go_simp
          obtain ⟨wy179, hY⟩ : ∃ W, World.alloc wt175 (.cells #[.int .i64 0, .bool false, .int .i64 0, .bool false, .bool false, .bool false, .bool false, .bool false, .bool false, .int .i64 0, .slice none 0 0, .slice none 0 0, .slice none 0 0, .slice none 0 0] 27) = W := ⟨_, rfl⟩
          obtain ⟨R2, hR'⟩ : ∃ z, (World.heap wt175).size = z := ⟨_, rfl⟩
          have hB := alloc_belF hY
          have HBy179 := hide' (bstep HBt175.out hB HBt175.out.size)
          have TM_180 : Hid (Tn4 wy179 rq ma mu md ea eu ed P Am Um Dm) := by unfold Hid; first | exact TM_176.out.below hB | exact (tn_drewF TM_176.out).below hB
          have X1_181 : Hid (Bx wy179 R1 #[.int .i64 0, .bool false, .int .i64 0, .bool false, .bool false, .bool false, .bool false, .bool false, .bool false, .int .i64 0, .slice none 0 0, .slice none 0 0, .slice none 0 0, .slice none 0 0] 27) := by unfold Hid; first | exact X1_177.out.below hB X1_177.out.lt | exact (bx_drewF X1_177.out).below hB (bx_drewF X1_177.out).lt
          have TA_182 : Hid (Tn4 wy179 sq na nu nd fa fu fd Q A U D) := by unfold Hid; first | exact TA_178.out.below hB | exact (tn_drewF TA_178.out).below hB
          have X2_183 : Hid (Bx wy179 R2 #[.int .i64 0, .bool false, .int .i64 0, .bool false, .bool false, .bool false, .bool false, .bool false, .bool false, .int .i64 0, .slice none 0 0, .slice none 0 0, .slice none 0 0, .slice none 0 0] 27) := by rw [← hY, ← hR']; exact World.alloc_heap_new wt175 _
          have hge2 : wr.heap.size ≤ R2 := by rw [← hR']; exact HBt175.out.size
          have hne : R1 ≠ R2 := by have := X1_177.out.lt; rw [hR'] at this; omega
          simp only [hY, hR']
          clear hY hR' hB
          refine hK.out _ _ (by first | exact HS.out _ HBy179.out | exact HS.out _ HBy179.out.drew) (fun hHeld => ?_)
          clear hK K
          try simp only [Act.put, List.setIfInBounds_toArray, List.set_cons_zero, List.set_cons_succ]
          exact nine_leaf K' Q' R pr cr j0 j2 j9 k1 k3 k4 k5 k6 k7 k8 r0 s0 t0 v0 rc sc tc vc P Am Um Dm i0 i2 i9 b1 b3 b4 b5 b6 b7 b8 q0 a0 u0 d0 qc ac uc dc Q A U D R1 R2 rq ma mu md e1 ea eu ed sq na nu nd f1 fa fu fd w wr wy179 _ _ _ _ _ _ _ _ _ _ _ _ _ _ _ _ _ _ _ _ _ _ _ _ _ _ _ _ _ _ _ _ _ _ _ _ _ _ _ _ _ _ _ _ _ _ _ _ _ _ _ _ _ _ _ _ _ _ _ _ _ _ _ _ _ _ _ _ _ _ _ _ _ _ _ _ H2 HS HKK HBy179 hge1 hge2 hne X1_181 X2_183 TM_180 TA_182
      · go_simp
        obtain ⟨wy184, hY⟩ : ∃ W, World.alloc wy172 (.cells #[.int .i64 0, .bool false, .int .i64 0, .bool false, .bool false, .bool false, .bool false, .bool false, .bool false, .int .i64 0, .slice none 0 0, .slice none 0 0, .slice none 0 0, .slice none 0 0] 27) = W := ⟨_, rfl⟩
        obtain ⟨R2, hR'⟩ : ∃ z, (World.heap wy172).size = z := ⟨_, rfl⟩
        have hB := alloc_belF hY
        have HBy184 := hide' (bstep HBy172.out hB HBy172.out.size)
        have TM_185 : Hid (Tn4 wy184 rq ma mu md ea eu ed P Am Um Dm) := by unfold Hid; first | exact TM_173.out.below hB | exact (tn_drewF TM_173.out).below hB
        have X1_186 : Hid (Bx wy184 R1 #[.int .i64 0, .bool false, .int .i64 0, .bool false, .bool false, .bool false, .bool false, .bool false, .bool false, .int .i64 0, .slice none 0 0, .slice none 0 0, .slice none 0 0, .slice none 0 0] 27) := by unfold Hid; first | exact X1_174.out.below hB X1_174.out.lt | exact (bx_drewF X1_174.out).below hB (bx_drewF X1_174.out).lt
        have X2_187 : Hid (Bx wy184 R2 #[.int .i64 0, .bool false, .int .i64 0, .bool false, .bool false, .bool false, .bool false, .bool false, .bool false, .int .i64 0, .slice none 0 0, .slice none 0 0, .slice none 0 0, .slice none 0 0] 27) := by rw [← hY, ← hR']; exact World.alloc_heap_new wy172 _
        have hge2 : wr.heap.size ≤ R2 := by rw [← hR']; exact HBy172.out.size
        have hne : R1 ≠ R2 := by have := X1_174.out.lt; rw [hR'] at this; omega
        simp only [hY, hR']
        clear hY hR' hB
        refine hK.out _ _ (by first | exact HS.out _ HBy184.out | exact HS.out _ HBy184.out.drew) (fun hHeld => ?_)
        clear hK K
        try simp only [Act.put, List.setIfInBounds_toArray, List.set_cons_zero, List.set_cons_succ]
        refine wpAnyH_ready (rs := [3]) (by kernel_rfl) (by simp) ?_
        refine AllReadyH.cons rfl (fun K hK => ?_) AllReadyH.nil
        · go_simp
          go_at_call 7; (first | with_reducible refine (HTa.out _ (H2.out.step HBy184.out).b).mono ?_ | with_reducible refine (HTa.out _ (H2.out.step HBy184.out).b.drew).mono ?_); rintro e wt188 ⟨sq, na, nu, nd, f1, fa, fu, fd, rfl, ht, hB⟩
          have HBt188 := hide' (below_any HBy184.out hB (by first | exact .inl rfl | exact .inr rfl) HBy184.out.size)
          have TM_189 : Hid (Tn4 wt188 rq ma mu md ea eu ed P Am Um Dm) := by unfold Hid; first | exact TM_185.out.below hB | exact (tn_drewF TM_185.out).below hB
          have X1_190 : Hid (Bx wt188 R1 #[.int .i64 0, .bool false, .int .i64 0, .bool false, .bool false, .bool false, .bool false, .bool false, .bool false, .int .i64 0, .slice none 0 0, .slice none 0 0, .slice none 0 0, .slice none 0 0] 27) := by unfold Hid; first | exact X1_186.out.below hB X1_186.out.lt | exact (bx_drewF X1_186.out).below hB (bx_drewF X1_186.out).lt
          have X2_191 : Hid (Bx wt188 R2 #[.int .i64 0, .bool false, .int .i64 0, .bool false, .bool false, .bool false, .bool false, .bool false, .bool false, .int .i64 0, .slice none 0 0, .slice none 0 0, .slice none 0 0, .slice none 0 0] 27) := by unfold Hid; first | exact X2_187.out.below hB X2_187.out.lt | exact (bx_drewF X2_187.out).below hB (bx_drewF X2_187.out).lt
          have TA_192 := hide' ht
          clear ht hB
          go_wp2_with fail
          refine hK.out _ _ (HS.out _ HBt188.out) (fun hHeld => ?_)
          clear hK K
          try simp only [Act.put, List.setIfInBounds_toArray, List.set_cons_zero, List.set_cons_succ]
          exact nine_leaf K' Q' R pr cr j0 j2 j9 k1 k3 k4 k5 k6 k7 k8 r0 s0 t0 v0 rc sc tc vc P Am Um Dm i0 i2 i9 b1 b3 b4 b5 b6 b7 b8 q0 a0 u0 d0 qc ac uc dc Q A U D R1 R2 rq ma mu md e1 ea eu ed sq na nu nd f1 fa fu fd w wr wt188 _ _ _ _ _ _ _ _ _ _ _ _ _ _ _ _ _ _ _ _ _ _ _ _ _ _ _ _ _ _ _ _ _ _ _ _ _ _ _ _ _ _ _ _ _ _ _ _ _ _ _ _ _ _ _ _ _ _ _ _ _ _ _ _ _ _ _ _ _ _ _ _ _ _ _ _ H2 HS HKK HBt188 hge1 hge2 hne X1_190 X2_191 TM_189 TA_192
    · go_simp
      obtain ⟨wy193, hY⟩ : ∃ W, World.alloc wt149 (.cells #[.int .i64 0, .bool false, .int .i64 0, .bool false, .bool false, .bool false, .bool false, .bool false, .bool false, .int .i64 0, .slice none 0 0, .slice none 0 0, .slice none 0 0, .slice none 0 0] 27) = W := ⟨_, rfl⟩
      obtain ⟨R2, hR'⟩ : ∃ z, (World.heap wt149).size = z := ⟨_, rfl⟩
      have hB := alloc_belF hY
      have HBy193 := hide' (bstep HBt149.out hB HBt149.out.size)
      have TM_194 : Hid (Tn4 wy193 rq ma mu md ea eu ed P Am Um Dm) := by unfold Hid; first | exact TM_150.out.below hB | exact (tn_drewF TM_150.out).below hB
      have X2_195 : Hid (Bx wy193 R2 #[.int .i64 0, .bool false, .int .i64 0, .bool false, .bool false, .bool false, .bool false, .bool false, .bool false, .int .i64 0, .slice none 0 0, .slice none 0 0, .slice none 0 0, .slice none 0 0] 27) := by rw [← hY, ← hR']; exact World.alloc_heap_new wt149 _
      have hge2 : wr.heap.size ≤ R2 := by rw [← hR']; exact HBt149.out.size
      simp only [hY, hR']
      clear hY hR' hB
      refine hK.out _ _ (by first | exact HS.out _ HBy193.out | exact HS.out _ HBy193.out.drew) (fun hHeld => ?_)
      clear hK K
      try simp only [Act.put, List.setIfInBounds_toArray, List.set_cons_zero, List.set_cons_succ]
      refine wpAnyH_ready (rs := [3, 4]) (by kernel_rfl) (by simp) ?_
      refine AllReadyH.cons rfl (fun K hK => ?_) (AllReadyH.cons rfl (fun K hK => ?_) AllReadyH.nil)
      · go_simp
        go_at_call 7; (first | with_reducible refine (HTa.out _ (H2.out.step HBy193.out).b).mono ?_ | with_reducible refine (HTa.out _ (H2.out.step HBy193.out).b.drew).mono ?_); rintro e wt196 ⟨sq, na, nu, nd, f1, fa, fu, fd, rfl, ht, hB⟩
        have HBt196 := hide' (below_any HBy193.out hB (by first | exact .inl rfl | exact .inr rfl) HBy193.out.size)
        have TM_197 : Hid (Tn4 wt196 rq ma mu md ea eu ed P Am Um Dm) := by unfold Hid; first | exact TM_194.out.below hB | exact (tn_drewF TM_194.out).below hB
        have X2_198 : Hid (Bx wt196 R2 #[.int .i64 0, .bool false, .int .i64 0, .bool false, .bool false, .bool false, .bool false, .bool false, .bool false, .int .i64 0, .slice none 0 0, .slice none 0 0, .slice none 0 0, .slice none 0 0] 27) := by unfold Hid; first | exact X2_195.out.below hB X2_195.out.lt | exact (bx_drewF X2_195.out).below hB (bx_drewF X2_195.out).lt
        have TA_199 := hide' ht
        clear ht hB
        go_wp2_with fail
        refine hK.out _ _ (HS.out _ HBt196.out) (fun hHeld => ?_)
        clear hK K
        try simp only [Act.put, List.setIfInBounds_toArray, List.set_cons_zero, List.set_cons_succ]
        refine wpAnyH_ready (rs := [4]) (by kernel_rfl) (by simp) ?_
        refine AllReadyH.cons rfl (fun K hK => ?_) AllReadyH.nil
        · go_simp
          obtain ⟨wy200, hY⟩ : ∃ W, World.alloc wt196 (.cells #[.int .i64 0, .bool false, .int .i64 0, .bool false, .bool false, .bool false, .bool false, .bool false, .bool false, .int .i64 0, .slice none 0 0, .slice none 0 0, .slice none 0 0, .slice none 0 0] 27) = W := ⟨_, rfl⟩
          obtain ⟨R1, hR'⟩ : ∃ z, (World.heap wt196).size = z := ⟨_, rfl⟩
          have hB := alloc_belF hY
          have HBy200 := hide' (bstep HBt196.out hB HBt196.out.size)
          have TM_201 : Hid (Tn4 wy200 rq ma mu md ea eu ed P Am Um Dm) := by unfold Hid; first | exact TM_197.out.below hB | exact (tn_drewF TM_197.out).below hB
          have X2_202 : Hid (Bx wy200 R2 #[.int .i64 0, .bool false, .int .i64 0, .bool false, .bool false, .bool false, .bool false, .bool false, .bool false, .int .i64 0, .slice none 0 0, .slice none 0 0, .slice none 0 0, .slice none 0 0] 27) := by unfold Hid; first | exact X2_198.out.below hB X2_198.out.lt | exact (bx_drewF X2_198.out).below hB (bx_drewF X2_198.out).lt
          have TA_203 : Hid (Tn4 wy200 sq na nu nd fa fu fd Q A U D) := by unfold Hid; first | exact TA_199.out.below hB | exact (tn_drewF TA_199.out).below hB
          have X1_204 : Hid (Bx wy200 R1 #[.int .i64 0, .bool false, .int .i64 0, .bool false, .bool false, .bool false, .bool false, .bool false, .bool false, .int .i64 0, .slice none 0 0, .slice none 0 0, .slice none 0 0, .slice none 0 0] 27) := by rw [← hY, ← hR']; exact World.alloc_heap_new wt196 _
          have hge1 : wr.heap.size ≤ R1 := by rw [← hR']; exact HBt196.out.size
          have hne : R1 ≠ R2 := by have := X2_198.out.lt; rw [hR'] at this; omega
          simp only [hY, hR']
          clear hY hR' hB
          refine hK.out _ _ (by first | exact HS.out _ HBy200.out | exact HS.out _ HBy200.out.drew) (fun hHeld => ?_)
          clear hK K
          try simp only [Act.put, List.setIfInBounds_toArray, List.set_cons_zero, List.set_cons_succ]
          exact nine_leaf K' Q' R pr cr j0 j2 j9 k1 k3 k4 k5 k6 k7 k8 r0 s0 t0 v0 rc sc tc vc P Am Um Dm i0 i2 i9 b1 b3 b4 b5 b6 b7 b8 q0 a0 u0 d0 qc ac uc dc Q A U D R1 R2 rq ma mu md e1 ea eu ed sq na nu nd f1 fa fu fd w wr wy200 _ _ _ _ _ _ _ _ _ _ _ _ _ _ _ _ _ _ _ _ _ _ _ _ _ _ _ _ _ _ _ _ _ _ _ _ _ _ _ _ _ _ _ _ _ _ _ _ _ _ _ _ _ _ _ _ _ _ _ _ _ _ _ _ _ _ _ _ _ _ _ _ _ _ _ _ H2 HS HKK HBy200 hge1 hge2 hne X1_204 X2_202 TM_201 TA_203
      · go_simp
        obtain ⟨wy205, hY⟩ : ∃ W, World.alloc wy193 (.cells #[.int .i64 0, .bool false, .int .i64 0, .bool false, .bool false, .bool false, .bool false, .bool false, .bool false, .int .i64 0, .slice none 0 0, .slice none 0 0, .slice none 0 0, .slice none 0 0] 27) = W := ⟨_, rfl⟩
        obtain ⟨R1, hR'⟩ : ∃ z, (World.heap wy193).size = z := ⟨_, rfl⟩
        have hB := alloc_belF hY
        have HBy205 := hide' (bstep HBy193.out hB HBy193.out.size)
        have TM_206 : Hid (Tn4 wy205 rq ma mu md ea eu ed P Am Um Dm) := by unfold Hid; first | exact TM_194.out.below hB | exact (tn_drewF TM_194.out).below hB
        have X2_207 : Hid (Bx wy205 R2 #[.int .i64 0, .bool false, .int .i64 0, .bool false, .bool false, .bool false, .bool false, .bool false, .bool false, .int .i64 0, .slice none 0 0, .slice none 0 0, .slice none 0 0, .slice none 0 0] 27) := by unfold Hid; first | exact X2_195.out.below hB X2_195.out.lt | exact (bx_drewF X2_195.out).below hB (bx_drewF X2_195.out).lt
        have X1_208 : Hid (Bx wy205 R1 #[.int .i64 0, .bool false, .int .i64 0, .bool false, .bool false, .bool false, .bool false, .bool false, .bool false, .int .i64 0, .slice none 0 0, .slice none 0 0, .slice none 0 0, .slice none 0 0] 27) := by rw [← hY, ← hR']; exact World.alloc_heap_new wy193 _
        have hge1 : wr.heap.size ≤ R1 := by rw [← hR']; exact HBy193.out.size
        have hne : R1 ≠ R2 := by have := X2_195.out.lt; rw [hR'] at this; omega
        simp only [hY, hR']
        clear hY hR' hB
        refine hK.out _ _ (by first | exact HS.out _ HBy205.out | exact HS.out _ HBy205.out.drew) (fun hHeld => ?_)
        clear hK K
        try simp only [Act.put, List.setIfInBounds_toArray, List.set_cons_zero, List.set_cons_succ]
        refine wpAnyH_ready (rs := [3]) (by kernel_rfl) (by simp) ?_
        refine AllReadyH.cons rfl (fun K hK => ?_) AllReadyH.nil
        · go_simp
          go_at_call 7; (first | with_reducible refine (HTa.out _ (H2.out.step HBy205.out).b).mono ?_ | with_reducible refine (HTa.out _ (H2.out.step HBy205.out).b.drew).mono ?_); rintro e wt209 ⟨sq, na, nu, nd, f1, fa, fu, fd, rfl, ht, hB⟩
          have HBt209 := hide' (below_any HBy205.out hB (by first | exact .inl rfl | exact .inr rfl) HBy205.out.size)
          have TM_210 : Hid (Tn4 wt209 rq ma mu md ea eu ed P Am Um Dm) := by unfold Hid; first | exact TM_206.out.below hB | exact (tn_drewF TM_206.out).below hB
          have X2_211 : Hid (Bx wt209 R2 #[.int .i64 0, .bool false, .int .i64 0, .bool false, .bool false, .bool false, .bool false, .bool false, .bool false, .int .i64 0, .slice none 0 0, .slice none 0 0, .slice none 0 0, .slice none 0 0] 27) := by unfold Hid; first | exact X2_207.out.below hB X2_207.out.lt | exact (bx_drewF X2_207.out).below hB (bx_drewF X2_207.out).lt
          have X1_212 : Hid (Bx wt209 R1 #[.int .i64 0, .bool false, .int .i64 0, .bool false, .bool false, .bool false, .bool false, .bool false, .bool false, .int .i64 0, .slice none 0 0, .slice none 0 0, .slice none 0 0, .slice none 0 0] 27) := by unfold Hid; first | exact X1_208.out.below hB X1_208.out.lt | exact (bx_drewF X1_208.out).below hB (bx_drewF X1_208.out).lt
          have TA_213 := hide' ht
          clear ht hB
          go_wp2_with fail
          refine hK.out _ _ (HS.out _ HBt209.out) (fun hHeld => ?_)
          clear hK K
          try simp only [Act.put, List.setIfInBounds_toArray, List.set_cons_zero, List.set_cons_succ]
          exact nine_leaf K' Q' R pr cr j0 j2 j9 k1 k3 k4 k5 k6 k7 k8 r0 s0 t0 v0 rc sc tc vc P Am Um Dm i0 i2 i9 b1 b3 b4 b5 b6 b7 b8 q0 a0 u0 d0 qc ac uc dc Q A U D R1 R2 rq ma mu md e1 ea eu ed sq na nu nd f1 fa fu fd w wr wt209 _ _ _ _ _ _ _ _ _ _ _ _ _ _ _ _ _ _ _ _ _ _ _ _ _ _ _ _ _ _ _ _ _ _ _ _ _ _ _ _ _ _ _ _ _ _ _ _ _ _ _ _ _ _ _ _ _ _ _ _ _ _ _ _ _ _ _ _ _ _ _ _ _ _ _ _ H2 HS HKK HBt209 hge1 hge2 hne X1_212 X2_211 TM_210 TA_213
  · go_simp
    obtain ⟨wy214, hY⟩ : ∃ W, World.alloc wr (.cells #[.int .i64 0, .bool false, .int .i64 0, .bool false, .bool false, .bool false, .bool false, .bool false, .bool false, .int .i64 0, .slice none 0 0, .slice none 0 0, .slice none 0 0, .slice none 0 0] 27) = W := ⟨_, rfl⟩
    obtain ⟨R1, hR'⟩ : ∃ z, (World.heap wr).size = z := ⟨_, rfl⟩
    have hB := alloc_belF hY
    have HBy214 := hide' (bstep HB0.out hB HB0.out.size)
    have X1_215 : Hid (Bx wy214 R1 #[.int .i64 0, .bool false, .int .i64 0, .bool false, .bool false, .bool false, .bool false, .bool false, .bool false, .int .i64 0, .slice none 0 0, .slice none 0 0, .slice none 0 0, .slice none 0 0] 27) := by rw [← hY, ← hR']; exact World.alloc_heap_new wr _
    have hge1 : wr.heap.size ≤ R1 := by rw [← hR']; exact HB0.out.size
    simp only [hY, hR']
    clear hY hR' hB
    refine hK.out _ _ (by first | exact HS.out _ HBy214.out | exact HS.out _ HBy214.out.drew) (fun hHeld => ?_)
    clear hK K
    try simp only [Act.put, List.setIfInBounds_toArray, List.set_cons_zero, List.set_cons_succ]
    refine wpAnyH_ready (rs := [1, 5]) (by kernel_rfl) (by simp) ?_
    refine AllReadyH.cons rfl (fun K hK => ?_) (AllReadyH.cons rfl (fun K hK => ?_) AllReadyH.nil)
    · go_simp
      go_at_call 7; (first | with_reducible refine (HTm.out _ (H2.out.step HBy214.out).b).mono ?_ | with_reducible refine (HTm.out _ (H2.out.step HBy214.out).b.drew).mono ?_); rintro e wt216 ⟨rq, ma, mu, md, e1, ea, eu, ed, rfl, ht, hB⟩
      have HBt216 := hide' (below_any HBy214.out hB (by first | exact .inl rfl | exact .inr rfl) HBy214.out.size)
      have X1_217 : Hid (Bx wt216 R1 #[.int .i64 0, .bool false, .int .i64 0, .bool false, .bool false, .bool false, .bool false, .bool false, .bool false, .int .i64 0, .slice none 0 0, .slice none 0 0, .slice none 0 0, .slice none 0 0] 27) := by unfold Hid; first | exact X1_215.out.below hB X1_215.out.lt | exact (bx_drewF X1_215.out).below hB (bx_drewF X1_215.out).lt
      have TM_218 := hide' ht
      clear ht hB
      go_wp2_with fail
      refine hK.out _ _ (HS.out _ HBt216.out) (fun hHeld => ?_)
      clear hK K
      try simp only [Act.put, List.setIfInBounds_toArray, List.set_cons_zero, List.set_cons_succ]
      refine wpAnyH_ready (rs := [3, 5]) (by kernel_rfl) (by simp) ?_
      refine AllReadyH.cons rfl (fun K hK => ?_) (AllReadyH.cons rfl (fun K hK => ?_) AllReadyH.nil)
      · go_simp
        go_at_call 7; (first | with_reducible refine (HTa.out _ (H2.out.step HBt216.out).b).mono ?_ | with_reducible refine (HTa.out _ (H2.out.step HBt216.out).b.drew).mono ?_); rintro e wt219 ⟨sq, na, nu, nd, f1, fa, fu, fd, rfl, ht, hB⟩
        have HBt219 := hide' (below_any HBt216.out hB (by first | exact .inl rfl | exact .inr rfl) HBt216.out.size)
        have X1_220 : Hid (Bx wt219 R1 #[.int .i64 0, .bool false, .int .i64 0, .bool false, .bool false, .bool false, .bool false, .bool false, .bool false, .int .i64 0, .slice none 0 0, .slice none 0 0, .slice none 0 0, .slice none 0 0] 27) := by unfold Hid; first | exact X1_217.out.below hB X1_217.out.lt | exact (bx_drewF X1_217.out).below hB (bx_drewF X1_217.out).lt
        have TM_221 : Hid (Tn4 wt219 rq ma mu md ea eu ed P Am Um Dm) := by unfold Hid; first | exact TM_218.out.below hB | exact (tn_drewF TM_218.out).below hB
        have TA_222 := hide' ht
        clear ht hB
        go_wp2_with fail
        refine hK.out _ _ (HS.out _ HBt219.out) (fun hHeld => ?_)
        clear hK K
        try simp only [Act.put, List.setIfInBounds_toArray, List.set_cons_zero, List.set_cons_succ]
        refine wpAnyH_ready (rs := [5]) (by kernel_rfl) (by simp) ?_
        refine AllReadyH.cons rfl (fun K hK => ?_) AllReadyH.nil
        · go_simp
          obtain ⟨wy223, hY⟩ : ∃ W, World.alloc wt219 (.cells #[.int .i64 0, .bool false, .int .i64 0, .bool false, .bool false, .bool false, .bool false, .bool false, .bool false, .int .i64 0, .slice none 0 0, .slice none 0 0, .slice none 0 0, .slice none 0 0] 27) = W := ⟨_, rfl⟩
          obtain ⟨R2, hR'⟩ : ∃ z, (World.heap wt219).size = z := ⟨_, rfl⟩
          have hB := alloc_belF hY
          have HBy223 := hide' (bstep HBt219.out hB HBt219.out.size)
          have X1_224 : Hid (Bx wy223 R1 #[.int .i64 0, .bool false, .int .i64 0, .bool false, .bool false, .bool false, .bool false, .bool false, .bool false, .int .i64 0, .slice none 0 0, .slice none 0 0, .slice none 0 0, .slice none 0 0] 27) := by unfold Hid; first | exact X1_220.out.below hB X1_220.out.lt | exact (bx_drewF X1_220.out).below hB (bx_drewF X1_220.out).lt
          have TM_225 : Hid (Tn4 wy223 rq ma mu md ea eu ed P Am Um Dm) := by unfold Hid; first | exact TM_221.out.below hB | exact (tn_drewF TM_221.out).below hB
          have TA_226 : Hid (Tn4 wy223 sq na nu nd fa fu fd Q A U D) := by unfold Hid; first | exact TA_222.out.below hB | exact (tn_drewF TA_222.out).below hB
          have X2_227 : Hid (Bx wy223 R2 #[.int .i64 0, .bool false, .int .i64 0, .bool false, .bool false, .bool false, .bool false, .bool false, .bool false, .int .i64 0, .slice none 0 0, .slice none 0 0, .slice none 0 0, .slice none 0 0] 27) := by rw [← hY, ← hR']; exact World.alloc_heap_new wt219 _
          have hge2 : wr.heap.size ≤ R2 := by rw [← hR']; exact HBt219.out.size
          have hne : R1 ≠ R2 := by have := X1_220.out.lt; rw [hR'] at this; omega
          simp only [hY, hR']
          clear hY hR' hB
          refine hK.out _ _ (by first | exact HS.out _ HBy223.out | exact HS.out _ HBy223.out.drew) (fun hHeld => ?_)
          clear hK K
          try simp only [Act.put, List.setIfInBounds_toArray, List.set_cons_zero, List.set_cons_succ]
          exact nine_leaf K' Q' R pr cr j0 j2 j9 k1 k3 k4 k5 k6 k7 k8 r0 s0 t0 v0 rc sc tc vc P Am Um Dm i0 i2 i9 b1 b3 b4 b5 b6 b7 b8 q0 a0 u0 d0 qc ac uc dc Q A U D R1 R2 rq ma mu md e1 ea eu ed sq na nu nd f1 fa fu fd w wr wy223 _ _ _ _ _ _ _ _ _ _ _ _ _ _ _ _ _ _ _ _ _ _ _ _ _ _ _ _ _ _ _ _ _ _ _ _ _ _ _ _ _ _ _ _ _ _ _ _ _ _ _ _ _ _ _ _ _ _ _ _ _ _ _ _ _ _ _ _ _ _ _ _ _ _ _ _ H2 HS HKK HBy223 hge1 hge2 hne X1_224 X2_227 TM_225 TA_226
      · go_simp
        obtain ⟨wy228, hY⟩ : ∃ W, World.alloc wt216 (.cells #[.int .i64 0, .bool false, .int .i64 0, .bool false, .bool false, .bool false, .bool false, .bool false, .bool false, .int .i64 0, .slice none 0 0, .slice none 0 0, .slice none 0 0, .slice none 0 0] 27) = W := ⟨_, rfl⟩
        obtain ⟨R2, hR'⟩ : ∃ z, (World.heap wt216).size = z := ⟨_, rfl⟩
        have hB := alloc_belF hY
        have HBy228 := hide' (bstep HBt216.out hB HBt216.out.size)
        have X1_229 : Hid (Bx wy228 R1 #[.int .i64 0, .bool false, .int .i64 0, .bool false, .bool false, .bool false, .bool false, .bool false, .bool false, .int .i64 0, .slice none 0 0, .slice none 0 0, .slice none 0 0, .slice none 0 0] 27) := by unfold Hid; first | exact X1_217.out.below hB X1_217.out.lt | exact (bx_drewF X1_217.out).below hB (bx_drewF X1_217.out).lt
        have TM_230 : Hid (Tn4 wy228 rq ma mu md ea eu ed P Am Um Dm) := by unfold Hid; first | exact TM_218.out.below hB | exact (tn_drewF TM_218.out).below hB
        have X2_231 : Hid (Bx wy228 R2 #[.int .i64 0, .bool false, .int .i64 0, .bool false, .bool false, .bool false, .bool false, .bool false, .bool false, .int .i64 0, .slice none 0 0, .slice none 0 0, .slice none 0 0, .slice none 0 0] 27) := by rw [← hY, ← hR']; exact World.alloc_heap_new wt216 _
        have hge2 : wr.heap.size ≤ R2 := by rw [← hR']; exact HBt216.out.size
        have hne : R1 ≠ R2 := by have := X1_217.out.lt; rw [hR'] at this; omega
        simp only [hY, hR']
        clear hY hR' hB
        refine hK.out _ _ (by first | exact HS.out _ HBy228.out | exact HS.out _ HBy228.out.drew) (fun hHeld => ?_)
        clear hK K
        try simp only [Act.put, List.setIfInBounds_toArray, List.set_cons_zero, List.set_cons_succ]
        refine wpAnyH_ready (rs := [3]) (by kernel_rfl) (by simp) ?_
        refine AllReadyH.cons rfl (fun K hK => ?_) AllReadyH.nil
        · go_simp
          go_at_call 7; (first | with_reducible refine (HTa.out _ (H2.out.step HBy228.out).b).mono ?_ | with_reducible refine (HTa.out _ (H2.out.step HBy228.out).b.drew).mono ?_); rintro e wt232 ⟨sq, na, nu, nd, f1, fa, fu, fd, rfl, ht, hB⟩
          have HBt232 := hide' (below_any HBy228.out hB (by first | exact .inl rfl | exact .inr rfl) HBy228.out.size)
          have X1_233 : Hid (Bx wt232 R1 #[.int .i64 0, .bool false, .int .i64 0, .bool false, .bool false, .bool false, .bool false, .bool false, .bool false, .int .i64 0, .slice none 0 0, .slice none 0 0, .slice none 0 0, .slice none 0 0] 27) := by unfold Hid; first | exact X1_229.out.below hB X1_229.out.lt | exact (bx_drewF X1_229.out).below hB (bx_drewF X1_229.out).lt
          have TM_234 : Hid (Tn4 wt232 rq ma mu md ea eu ed P Am Um Dm) := by unfold Hid; first | exact TM_230.out.below hB | exact (tn_drewF TM_230.out).below hB
          have X2_235 : Hid (Bx wt232 R2 #[.int .i64 0, .bool false, .int .i64 0, .bool false, .bool false, .bool false, .bool false, .bool false, .bool false, .int .i64 0, .slice none 0 0, .slice none 0 0, .slice none 0 0, .slice none 0 0] 27) := by unfold Hid; first | exact X2_231.out.below hB X2_231.out.lt | exact (bx_drewF X2_231.out).below hB (bx_drewF X2_231.out).lt
          have TA_236 := hide' ht
          clear ht hB
          go_wp2_with fail
          refine hK.out _ _ (HS.out _ HBt232.out) (fun hHeld => ?_)
          clear hK K
          try simp only [Act.put, List.setIfInBounds_toArray, List.set_cons_zero, List.set_cons_succ]
          exact nine_leaf K' Q' R pr cr j0 j2 j9 k1 k3 k4 k5 k6 k7 k8 r0 s0 t0 v0 rc sc tc vc P Am Um Dm i0 i2 i9 b1 b3 b4 b5 b6 b7 b8 q0 a0 u0 d0 qc ac uc dc Q A U D R1 R2 rq ma mu md e1 ea eu ed sq na nu nd f1 fa fu fd w wr wt232 _ _ _ _ _ _ _ _ _ _ _ _ _ _ _ _ _ _ _ _ _ _ _ _ _ _ _ _ _ _ _ _ _ _ _ _ _ _ _ _ _ _ _ _ _ _ _ _ _ _ _ _ _ _ _ _ _ _ _ _ _ _ _ _ _ _ _ _ _ _ _ _ _ _ _ _ H2 HS HKK HBt232 hge1 hge2 hne X1_233 X2_235 TM_234 TA_236
    · go_simp
      obtain ⟨wy237, hY⟩ : ∃ W, World.alloc wy214 (.cells #[.int .i64 0, .bool false, .int .i64 0, .bool false, .bool false, .bool false, .bool false, .bool false, .bool false, .int .i64 0, .slice none 0 0, .slice none 0 0, .slice none 0 0, .slice none 0 0] 27) = W := ⟨_, rfl⟩
      obtain ⟨R2, hR'⟩ : ∃ z, (World.heap wy214).size = z := ⟨_, rfl⟩
      have hB := alloc_belF hY
      have HBy237 := hide' (bstep HBy214.out hB HBy214.out.size)
      have X1_238 : Hid (Bx wy237 R1 #[.int .i64 0, .bool false, .int .i64 0, .bool false, .bool false, .bool false, .bool false, .bool false, .bool false, .int .i64 0, .slice none 0 0, .slice none 0 0, .slice none 0 0, .slice none 0 0] 27) := by unfold Hid; first | exact X1_215.out.below hB X1_215.out.lt | exact (bx_drewF X1_215.out).below hB (bx_drewF X1_215.out).lt
      have X2_239 : Hid (Bx wy237 R2 #[.int .i64 0, .bool false, .int .i64 0, .bool false, .bool false, .bool false, .bool false, .bool false, .bool false, .int .i64 0, .slice none 0 0, .slice none 0 0, .slice none 0 0, .slice none 0 0] 27) := by rw [← hY, ← hR']; exact World.alloc_heap_new wy214 _
      have hge2 : wr.heap.size ≤ R2 := by rw [← hR']; exact HBy214.out.size
      have hne : R1 ≠ R2 := by have := X1_215.out.lt; rw [hR'] at this; omega
      simp only [hY, hR']
      clear hY hR' hB
      refine hK.out _ _ (by first | exact HS.out _ HBy237.out | exact HS.out _ HBy237.out.drew) (fun hHeld => ?_)
      clear hK K
      try simp only [Act.put, List.setIfInBounds_toArray, List.set_cons_zero, List.set_cons_succ]
      refine wpAnyH_ready (rs := [1]) (by kernel_rfl) (by simp) ?_
      refine AllReadyH.cons rfl (fun K hK => ?_) AllReadyH.nil
      · go_simp
        go_at_call 7; (first | with_reducible refine (HTm.out _ (H2.out.step HBy237.out).b).mono ?_ | with_reducible refine (HTm.out _ (H2.out.step HBy237.out).b.drew).mono ?_); rintro e wt240 ⟨rq, ma, mu, md, e1, ea, eu, ed, rfl, ht, hB⟩
        have HBt240 := hide' (below_any HBy237.out hB (by first | exact .inl rfl | exact .inr rfl) HBy237.out.size)
        have X1_241 : Hid (Bx wt240 R1 #[.int .i64 0, .bool false, .int .i64 0, .bool false, .bool false, .bool false, .bool false, .bool false, .bool false, .int .i64 0, .slice none 0 0, .slice none 0 0, .slice none 0 0, .slice none 0 0] 27) := by unfold Hid; first | exact X1_238.out.below hB X1_238.out.lt | exact (bx_drewF X1_238.out).below hB (bx_drewF X1_238.out).lt
        have X2_242 : Hid (Bx wt240 R2 #[.int .i64 0, .bool false, .int .i64 0, .bool false, .bool false, .bool false, .bool false, .bool false, .bool false, .int .i64 0, .slice none 0 0, .slice none 0 0, .slice none 0 0, .slice none 0 0] 27) := by unfold Hid; first | exact X2_239.out.below hB X2_239.out.lt | exact (bx_drewF X2_239.out).below hB (bx_drewF X2_239.out).lt
        have TM_243 := hide' ht
        clear ht hB
        go_wp2_with fail
        refine hK.out _ _ (HS.out _ HBt240.out) (fun hHeld => ?_)
        clear hK K
        try simp only [Act.put, List.setIfInBounds_toArray, List.set_cons_zero, List.set_cons_succ]
        refine wpAnyH_ready (rs := [3]) (by kernel_rfl) (by simp) ?_
        refine AllReadyH.cons rfl (fun K hK => ?_) AllReadyH.nil
        · go_simp
          go_at_call 7; (first | with_reducible refine (HTa.out _ (H2.out.step HBt240.out).b).mono ?_ | with_reducible refine (HTa.out _ (H2.out.step HBt240.out).b.drew).mono ?_); rintro e wt244 ⟨sq, na, nu, nd, f1, fa, fu, fd, rfl, ht, hB⟩
          have HBt244 := hide' (below_any HBt240.out hB (by first | exact .inl rfl | exact .inr rfl) HBt240.out.size)
          have X1_245 : Hid (Bx wt244 R1 #[.int .i64 0, .bool false, .int .i64 0, .bool false, .bool false, .bool false, .bool false, .bool false, .bool false, .int .i64 0, .slice none 0 0, .slice none 0 0, .slice none 0 0, .slice none 0 0] 27) := by unfold Hid; first | exact X1_241.out.below hB X1_241.out.lt | exact (bx_drewF X1_241.out).below hB (bx_drewF X1_241.out).lt
          have X2_246 : Hid (Bx wt244 R2 #[.int .i64 0, .bool false, .int .i64 0, .bool false, .bool false, .bool false, .bool false, .bool false, .bool false, .int .i64 0, .slice none 0 0, .slice none 0 0, .slice none 0 0, .slice none 0 0] 27) := by unfold Hid; first | exact X2_242.out.below hB X2_242.out.lt | exact (bx_drewF X2_242.out).below hB (bx_drewF X2_242.out).lt
          have TM_247 : Hid (Tn4 wt244 rq ma mu md ea eu ed P Am Um Dm) := by unfold Hid; first | exact TM_243.out.below hB | exact (tn_drewF TM_243.out).below hB
          have TA_248 := hide' ht
          clear ht hB
          go_wp2_with fail
          refine hK.out _ _ (HS.out _ HBt244.out) (fun hHeld => ?_)
          clear hK K
          try simp only [Act.put, List.setIfInBounds_toArray, List.set_cons_zero, List.set_cons_succ]
          exact nine_leaf K' Q' R pr cr j0 j2 j9 k1 k3 k4 k5 k6 k7 k8 r0 s0 t0 v0 rc sc tc vc P Am Um Dm i0 i2 i9 b1 b3 b4 b5 b6 b7 b8 q0 a0 u0 d0 qc ac uc dc Q A U D R1 R2 rq ma mu md e1 ea eu ed sq na nu nd f1 fa fu fd w wr wt244 _ _ _ _ _ _ _ _ _ _ _ _ _ _ _ _ _ _ _ _ _ _ _ _ _ _ _ _ _ _ _ _ _ _ _ _ _ _ _ _ _ _ _ _ _ _ _ _ _ _ _ _ _ _ _ _ _ _ _ _ _ _ _ _ _ _ _ _ _ _ _ _ _ _ _ _ H2 HS HKK HBt244 hge1 hge2 hne X1_245 X2_246 TM_247 TA_248
  · go_simp
    obtain ⟨wy249, hY⟩ : ∃ W, World.alloc wr (.cells #[.int .i64 0, .bool false, .int .i64 0, .bool false, .bool false, .bool false, .bool false, .bool false, .bool false, .int .i64 0, .slice none 0 0, .slice none 0 0, .slice none 0 0, .slice none 0 0] 27) = W := ⟨_, rfl⟩
    obtain ⟨R2, hR'⟩ : ∃ z, (World.heap wr).size = z := ⟨_, rfl⟩
    have hB := alloc_belF hY
    have HBy249 := hide' (bstep HB0.out hB HB0.out.size)
    have X2_250 : Hid (Bx wy249 R2 #[.int .i64 0, .bool false, .int .i64 0, .bool false, .bool false, .bool false, .bool false, .bool false, .bool false, .int .i64 0, .slice none 0 0, .slice none 0 0, .slice none 0 0, .slice none 0 0] 27) := by rw [← hY, ← hR']; exact World.alloc_heap_new wr _
    have hge2 : wr.heap.size ≤ R2 := by rw [← hR']; exact HB0.out.size
    simp only [hY, hR']
    clear hY hR' hB
    refine hK.out _ _ (by first | exact HS.out _ HBy249.out | exact HS.out _ HBy249.out.drew) (fun hHeld => ?_)
    clear hK K
    try simp only [Act.put, List.setIfInBounds_toArray, List.set_cons_zero, List.set_cons_succ]
    refine wpAnyH_ready (rs := [1, 4]) (by kernel_rfl) (by simp) ?_
    refine AllReadyH.cons rfl (fun K hK => ?_) (AllReadyH.cons rfl (fun K hK => ?_) AllReadyH.nil)
    · go_simp
      go_at_call 7; (first | with_reducible refine (HTm.out _ (H2.out.step HBy249.out).b).mono ?_ | with_reducible refine (HTm.out _ (H2.out.step HBy249.out).b.drew).mono ?_); rintro e wt251 ⟨rq, ma, mu, md, e1, ea, eu, ed, rfl, ht, hB⟩
      have HBt251 := hide' (below_any HBy249.out hB (by first | exact .inl rfl | exact .inr rfl) HBy249.out.size)
      have X2_252 : Hid (Bx wt251 R2 #[.int .i64 0, .bool false, .int .i64 0, .bool false, .bool false, .bool false, .bool false, .bool false, .bool false, .int .i64 0, .slice none 0 0, .slice none 0 0, .slice none 0 0, .slice none 0 0] 27) := by unfold Hid; first | exact X2_250.out.below hB X2_250.out.lt | exact (bx_drewF X2_250.out).below hB (bx_drewF X2_250.out).lt
      have TM_253 := hide' ht
      clear ht hB
      go_wp2_with fail
      refine hK.out _ _ (HS.out _ HBt251.out) (fun hHeld => ?_)
      clear hK K
      try simp only [Act.put, List.setIfInBounds_toArray, List.set_cons_zero, List.set_cons_succ]
      refine wpAnyH_ready (rs := [3, 4]) (by kernel_rfl) (by simp) ?_
      refine AllReadyH.cons rfl (fun K hK => ?_) (AllReadyH.cons rfl (fun K hK => ?_) AllReadyH.nil)
      · go_simp
        go_at_call 7; (first | with_reducible refine (HTa.out _ (H2.out.step HBt251.out).b).mono ?_ | with_reducible refine (HTa.out _ (H2.out.step HBt251.out).b.drew).mono ?_); rintro e wt254 ⟨sq, na, nu, nd, f1, fa, fu, fd, rfl, ht, hB⟩
        have HBt254 := hide' (below_any HBt251.out hB (by first | exact .inl rfl | exact .inr rfl) HBt251.out.size)
        have X2_255 : Hid (Bx wt254 R2 #[.int .i64 0, .bool false, .int .i64 0, .bool false, .bool false, .bool false, .bool false, .bool false, .bool false, .int .i64 0, .slice none 0 0, .slice none 0 0, .slice none 0 0, .slice none 0 0] 27) := by unfold Hid; first | exact X2_252.out.below hB X2_252.out.lt | exact (bx_drewF X2_252.out).below hB (bx_drewF X2_252.out).lt
        have TM_256 : Hid (Tn4 wt254 rq ma mu md ea eu ed P Am Um Dm) := by unfold Hid; first | exact TM_253.out.below hB | exact (tn_drewF TM_253.out).below hB
        have TA_257 := hide' ht
        clear ht hB
        go_wp2_with fail
        refine hK.out _ _ (HS.out _ HBt254.out) (fun hHeld => ?_)
        clear hK K
        try simp only [Act.put, List.setIfInBounds_toArray, List.set_cons_zero, List.set_cons_succ]
        refine wpAnyH_ready (rs := [4]) (by kernel_rfl) (by simp) ?_
        refine AllReadyH.cons rfl (fun K hK => ?_) AllReadyH.nil
        · go_simp
          obtain ⟨wy258, hY⟩ : ∃ W, World.alloc wt254 (.cells #[.int .i64 0, .bool false, .int .i64 0, .bool false, .bool false, .bool false, .bool false, .bool false, .bool false, .int .i64 0, .slice none 0 0, .slice none 0 0, .slice none 0 0, .slice none 0 0] 27) = W := ⟨_, rfl⟩
          obtain ⟨R1, hR'⟩ : ∃ z, (World.heap wt254).size = z := ⟨_, rfl⟩
          have hB := alloc_belF hY
          have HBy258 := hide' (bstep HBt254.out hB HBt254.out.size)
          have X2_259 : Hid (Bx wy258 R2 #[.int .i64 0, .bool false, .int .i64 0, .bool false, .bool false, .bool false, .bool false, .bool false, .bool false, .int .i64 0, .slice none 0 0, .slice none 0 0, .slice none 0 0, .slice none 0 0] 27) := by unfold Hid; first | exact X2_255.out.below hB X2_255.out.lt | exact (bx_drewF X2_255.out).below hB (bx_drewF X2_255.out).lt
          have TM_260 : Hid (Tn4 wy258 rq ma mu md ea eu ed P Am Um Dm) := by unfold Hid; first | exact TM_256.out.below hB | exact (tn_drewF TM_256.out).below hB
          have TA_261 : Hid (Tn4 wy258 sq na nu nd fa fu fd Q A U D) := by unfold Hid; first | exact TA_257.out.below hB | exact (tn_drewF TA_257.out).below hB
          have X1_262 : Hid (Bx wy258 R1 #[.int .i64 0, .bool false, .int .i64 0, .bool false, .bool false, .bool false, .bool false, .bool false, .bool false, .int .i64 0, .slice none 0 0, .slice none 0 0, .slice none 0 0, .slice none 0 0] 27) := by rw [← hY, ← hR']; exact World.alloc_heap_new wt254 _
          have hge1 : wr.heap.size ≤ R1 := by rw [← hR']; exact HBt254.out.size
          have hne : R1 ≠ R2 := by have := X2_255.out.lt; rw [hR'] at this; omega
          simp only [hY, hR']
          clear hY hR' hB
          refine hK.out _ _ (by first | exact HS.out _ HBy258.out | exact HS.out _ HBy258.out.drew) (fun hHeld => ?_)
          clear hK K
          try simp only [Act.put, List.setIfInBounds_toArray, List.set_cons_zero, List.set_cons_succ]
          exact nine_leaf K' Q' R pr cr j0 j2 j9 k1 k3 k4 k5 k6 k7 k8 r0 s0 t0 v0 rc sc tc vc P Am Um Dm i0 i2 i9 b1 b3 b4 b5 b6 b7 b8 q0 a0 u0 d0 qc ac uc dc Q A U D R1 R2 rq ma mu md e1 ea eu ed sq na nu nd f1 fa fu fd w wr wy258 _ _ _ _ _ _ _ _ _ _ _ _ _ _ _ _ _ _ _ _ _ _ _ _ _ _ _ _ _ _ _ _ _ _ _ _ _ _ _ _ _ _ _ _ _ _ _ _ _ _ _ _ _ _ _ _ _ _ _ _ _ _ _ _ _ _ _ _ _ _ _ _ _ _ _ _ H2 HS HKK HBy258 hge1 hge2 hne X1_262 X2_259 TM_260 TA_261
      · go_simp
        obtain ⟨wy263, hY⟩ : ∃ W, World.alloc wt251 (.cells #[.int .i64 0, .bool false, .int .i64 0, .bool false, .bool false, .bool false, .bool false, .bool false, .bool false, .int .i64 0, .slice none 0 0, .slice none 0 0, .slice none 0 0, .slice none 0 0] 27) = W := ⟨_, rfl⟩
        obtain ⟨R1, hR'⟩ : ∃ z, (World.heap wt251).size = z := ⟨_, rfl⟩
        have hB := alloc_belF hY
        have HBy263 := hide' (bstep HBt251.out hB HBt251.out.size)
        have X2_264 : Hid (Bx wy263 R2 #[.int .i64 0, .bool false, .int .i64 0, .bool false, .bool false, .bool false, .bool false, .bool false, .bool false, .int .i64 0, .slice none 0 0, .slice none 0 0, .slice none 0 0, .slice none 0 0] 27) := by unfold Hid; first | exact X2_252.out.below hB X2_252.out.lt | exact (bx_drewF X2_252.out).below hB (bx_drewF X2_252.out).lt
        have TM_265 : Hid (Tn4 wy263 rq ma mu md ea eu ed P Am Um Dm) := by unfold Hid; first | exact TM_253.out.below hB | exact (tn_drewF TM_253.out).below hB
        have X1_266 : Hid (Bx wy263 R1 #[.int .i64 0, .bool false, .int .i64 0, .bool false, .bool false, .bool false, .bool false, .bool false, .bool false, .int .i64 0, .slice none 0 0, .slice none 0 0, .slice none 0 0, .slice none 0 0] 27) := by rw [← hY, ← hR']; exact World.alloc_heap_new wt251 _
        have hge1 : wr.heap.size ≤ R1 := by rw [← hR']; exact HBt251.out.size
        have hne : R1 ≠ R2 := by have := X2_252.out.lt; rw [hR'] at this; omega
        simp only [hY, hR']
        clear hY hR' hB
        refine hK.out _ _ (by first | exact HS.out _ HBy263.out | exact HS.out _ HBy263.out.drew) (fun hHeld => ?_)
        clear hK K
        try simp only [Act.put, List.setIfInBounds_toArray, List.set_cons_zero, List.set_cons_succ]
        refine wpAnyH_ready (rs := [3]) (by kernel_rfl) (by simp) ?_
        refine AllReadyH.cons rfl (fun K hK => ?_) AllReadyH.nil
        · go_simp
          go_at_call 7; (first | with_reducible refine (HTa.out _ (H2.out.step HBy263.out).b).mono ?_ | with_reducible refine (HTa.out _ (H2.out.step HBy263.out).b.drew).mono ?_); rintro e wt267 ⟨sq, na, nu, nd, f1, fa, fu, fd, rfl, ht, hB⟩
          have HBt267 := hide' (below_any HBy263.out hB (by first | exact .inl rfl | exact .inr rfl) HBy263.out.size)
          have X2_268 : Hid (Bx wt267 R2 #[.int .i64 0, .bool false, .int .i64 0, .bool false, .bool false, .bool false, .bool false, .bool false, .bool false, .int .i64 0, .slice none 0 0, .slice none 0 0, .slice none 0 0, .slice none 0 0] 27) := by unfold Hid; first | exact X2_264.out.below hB X2_264.out.lt | exact (bx_drewF X2_264.out).below hB (bx_drewF X2_264.out).lt
          have TM_269 : Hid (Tn4 wt267 rq ma mu md ea eu ed P Am Um Dm) := by unfold Hid; first | exact TM_265.out.below hB | exact (tn_drewF TM_265.out).below hB
          have X1_270 : Hid (Bx wt267 R1 #[.int .i64 0, .bool false, .int .i64 0, .bool false, .bool false, .bool false, .bool false, .bool false, .bool false, .int .i64 0, .slice none 0 0, .slice none 0 0, .slice none 0 0, .slice none 0 0] 27) := by unfold Hid; first | exact X1_266.out.below hB X1_266.out.lt | exact (bx_drewF X1_266.out).below hB (bx_drewF X1_266.out).lt
          have TA_271 := hide' ht
          clear ht hB
          go_wp2_with fail
          refine hK.out _ _ (HS.out _ HBt267.out) (fun hHeld => ?_)
          clear hK K
          try simp only [Act.put, List.setIfInBounds_toArray, List.set_cons_zero, List.set_cons_succ]
          exact nine_leaf K' Q' R pr cr j0 j2 j9 k1 k3 k4 k5 k6 k7 k8 r0 s0 t0 v0 rc sc tc vc P Am Um Dm i0 i2 i9 b1 b3 b4 b5 b6 b7 b8 q0 a0 u0 d0 qc ac uc dc Q A U D R1 R2 rq ma mu md e1 ea eu ed sq na nu nd f1 fa fu fd w wr wt267 _ _ _ _ _ _ _ _ _ _ _ _ _ _ _ _ _ _ _ _ _ _ _ _ _ _ _ _ _ _ _ _ _ _ _ _ _ _ _ _ _ _ _ _ _ _ _ _ _ _ _ _ _ _ _ _ _ _ _ _ _ _ _ _ _ _ _ _ _ _ _ _ _ _ _ _ H2 HS HKK HBt267 hge1 hge2 hne X1_270 X2_268 TM_269 TA_271
    · go_simp
      obtain ⟨wy272, hY⟩ : ∃ W, World.alloc wy249 (.cells #[.int .i64 0, .bool false, .int .i64 0, .bool false, .bool false, .bool false, .bool false, .bool false, .bool false, .int .i64 0, .slice none 0 0, .slice none 0 0, .slice none 0 0, .slice none 0 0] 27) = W := ⟨_, rfl⟩
      obtain ⟨R1, hR'⟩ : ∃ z, (World.heap wy249).size = z := ⟨_, rfl⟩
      have hB := alloc_belF hY
      have HBy272 := hide' (bstep HBy249.out hB HBy249.out.size)
      have X2_273 : Hid (Bx wy272 R2 #[.int .i64 0, .bool false, .int .i64 0, .bool false, .bool false, .bool false, .bool false, .bool false, .bool false, .int .i64 0, .slice none 0 0, .slice none 0 0, .slice none 0 0, .slice none 0 0] 27) := by unfold Hid; first | exact X2_250.out.below hB X2_250.out.lt | exact (bx_drewF X2_250.out).below hB (bx_drewF X2_250.out).lt
      have X1_274 : Hid (Bx wy272 R1 #[.int .i64 0, .bool false, .int .i64 0, .bool false, .bool false, .bool false, .bool false, .bool false, .bool false, .int .i64 0, .slice none 0 0, .slice none 0 0, .slice none 0 0, .slice none 0 0] 27) := by rw [← hY, ← hR']; exact World.alloc_heap_new wy249 _
      have hge1 : wr.heap.size ≤ R1 := by rw [← hR']; exact HBy249.out.size
      have hne : R1 ≠ R2 := by have := X2_250.out.lt; rw [hR'] at this; omega
      simp only [hY, hR']
      clear hY hR' hB
      refine hK.out _ _ (by first | exact HS.out _ HBy272.out | exact HS.out _ HBy272.out.drew) (fun hHeld => ?_)
      clear hK K
      try simp only [Act.put, List.setIfInBounds_toArray, List.set_cons_zero, List.set_cons_succ]
      refine wpAnyH_ready (rs := [1]) (by kernel_rfl) (by simp) ?_
      refine AllReadyH.cons rfl (fun K hK => ?_) AllReadyH.nil
      · go_simp
        go_at_call 7; (first | with_reducible refine (HTm.out _ (H2.out.step HBy272.out).b).mono ?_ | with_reducible refine (HTm.out _ (H2.out.step HBy272.out).b.drew).mono ?_); rintro e wt275 ⟨rq, ma, mu, md, e1, ea, eu, ed, rfl, ht, hB⟩
        have HBt275 := hide' (below_any HBy272.out hB (by first | exact .inl rfl | exact .inr rfl) HBy272.out.size)
        have X2_276 : Hid (Bx wt275 R2 #[.int .i64 0, .bool false, .int .i64 0, .bool false, .bool false, .bool false, .bool false, .bool false, .bool false, .int .i64 0, .slice none 0 0, .slice none 0 0, .slice none 0 0, .slice none 0 0] 27) := by unfold Hid; first | exact X2_273.out.below hB X2_273.out.lt | exact (bx_drewF X2_273.out).below hB (bx_drewF X2_273.out).lt
        have X1_277 : Hid (Bx wt275 R1 #[.int .i64 0, .bool false, .int .i64 0, .bool false, .bool false, .bool false, .bool false, .bool false, .bool false, .int .i64 0, .slice none 0 0, .slice none 0 0, .slice none 0 0, .slice none 0 0] 27) := by unfold Hid; first | exact X1_274.out.below hB X1_274.out.lt | exact (bx_drewF X1_274.out).below hB (bx_drewF X1_274.out).lt
        have TM_278 := hide' ht
        clear ht hB
        go_wp2_with fail
        refine hK.out _ _ (HS.out _ HBt275.out) (fun hHeld => ?_)
        clear hK K
        try simp only [Act.put, List.setIfInBounds_toArray, List.set_cons_zero, List.set_cons_succ]
        refine wpAnyH_ready (rs := [3]) (by kernel_rfl) (by simp) ?_
        refine AllReadyH.cons rfl (fun K hK => ?_) AllReadyH.nil
        · go_simp
          go_at_call 7; (first | with_reducible refine (HTa.out _ (H2.out.step HBt275.out).b).mono ?_ | with_reducible refine (HTa.out _ (H2.out.step HBt275.out).b.drew).mono ?_); rintro e wt279 ⟨sq, na, nu, nd, f1, fa, fu, fd, rfl, ht, hB⟩
          have HBt279 := hide' (below_any HBt275.out hB (by first | exact .inl rfl | exact .inr rfl) HBt275.out.size)
          have X2_280 : Hid (Bx wt279 R2 #[.int .i64 0, .bool false, .int .i64 0, .bool false, .bool false, .bool false, .bool false, .bool false, .bool false, .int .i64 0, .slice none 0 0, .slice none 0 0, .slice none 0 0, .slice none 0 0] 27) := by unfold Hid; first | exact X2_276.out.below hB X2_276.out.lt | exact (bx_drewF X2_276.out).below hB (bx_drewF X2_276.out).lt
          have X1_281 : Hid (Bx wt279 R1 #[.int .i64 0, .bool false, .int .i64 0, .bool false, .bool false, .bool false, .bool false, .bool false, .bool false, .int .i64 0, .slice none 0 0, .slice none 0 0, .slice none 0 0, .slice none 0 0] 27) := by unfold Hid; first | exact X1_277.out.below hB X1_277.out.lt | exact (bx_drewF X1_277.out).below hB (bx_drewF X1_277.out).lt
          have TM_282 : Hid (Tn4 wt279 rq ma mu md ea eu ed P Am Um Dm) := by unfold Hid; first | exact TM_278.out.below hB | exact (tn_drewF TM_278.out).below hB
          have TA_283 := hide' ht
          clear ht hB
          go_wp2_with fail
          refine hK.out _ _ (HS.out _ HBt279.out) (fun hHeld => ?_)
          clear hK K
          try simp only [Act.put, List.setIfInBounds_toArray, List.set_cons_zero, List.set_cons_succ]
          exact nine_leaf K' Q' R pr cr j0 j2 j9 k1 k3 k4 k5 k6 k7 k8 r0 s0 t0 v0 rc sc tc vc P Am Um Dm i0 i2 i9 b1 b3 b4 b5 b6 b7 b8 q0 a0 u0 d0 qc ac uc dc Q A U D R1 R2 rq ma mu md e1 ea eu ed sq na nu nd f1 fa fu fd w wr wt279 _ _ _ _ _ _ _ _ _ _ _ _ _ _ _ _ _ _ _ _ _ _ _ _ _ _ _ _ _ _ _ _ _ _ _ _ _ _ _ _ _ _ _ _ _ _ _ _ _ _ _ _ _ _ _ _ _ _ _ _ _ _ _ _ _ _ _ _ _ _ _ _ _ _ _ _ H2 HS HKK HBt279 hge1 hge2 hne X1_281 X2_280 TM_282 TA_283
end Go.Proofs.YtligjbcinahgdaaGreat
