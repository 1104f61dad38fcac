import Derived.Test.YtoabnpdoicbpiaaGreatThG
namespace Go.Proofs.YtoabnpdoicbpiaaGreat
set_option linter.unusedVariables false
open Go.RowKit Go.Shelf Go.Proofs.YtoabnpdoicbpiaaGreat.Nm
def setS (d : ByteArray) : Option Nat := match typB d with | some _ => some d.size | none => none
set_option maxRecDepth 100000 in
theorem typeSetSize_any (d : ByteArray) (w : World) (hd : d.size ≤ 1048576) :
  Calls Tryz.prog 194 #[.agg #[], .string d] w fun e w' => e = szEnd (setS d) ∧ Below w.heap.size w w' := by
 have HT := hide' (fun w => typesOf_any d w hd)
 cases h : typB d with
 | some l =>
  rw [h] at HT
  have HE : Hid (setS d = some d.size) := by unfold Hid setS; rw [h]
  clear h
  go_enter Tryz.func194, Tryz.ntmps194
  go_wp2_with (go_at_call 195; refine (HT.out _).mono ?_; rintro e w1 ⟨⟨v, rfl, hown⟩, hB1⟩)
  go_ret
  exact ⟨by rw [HE.out]; rfl, ((Below.refl _ w).alloc (Nat.le_refl _) _).trans (hB1.mono (by simp))⟩
 | none =>
  rw [h] at HT
  have HE : Hid (setS d = none) := by unfold Hid setS; rw [h]
  clear h
  go_enter Tryz.func194, Tryz.ntmps194
  go_wp2_with (go_at_call 195; refine (HT.out _).mono ?_; rintro e w1 ⟨rfl, hB1⟩)
  exact ⟨rfl, by rw [HE.out]; rfl, ((Below.refl _ w).alloc (Nat.le_refl _) _).trans (hB1.mono (by simp))⟩
def txtP : Nat → ByteArray → Nat → Option Nat
 | 0, _, _ => none
 | f + 1, d, a => if d.size ≤ a then some a else match cntS (d.extract a d.size) with
  | none => none
  | some n => txtP f d (a + n)
def txtS (d : ByteArray) : Option Nat := match cntS d with
 | none => none
 | some n => txtP (d.size + 1) d n
theorem cntS_some {d : ByteArray} {n : Nat} (h : cntS d = some n) : 1 ≤ n ∧ n ≤ d.size := by
 unfold cntS at h
 split at h
 ·cases h
 ·simp at h; omega
theorem fieldText (w : World) : (Instr.field 192 (.agg #[]) 0).run Tryz.prog w = .ok (.agg #[]) w := by
 simp [Instr.field, run_underlying Tryz.underlying192, go_sem, asAgg]
 try rfl
set_option maxRecDepth 100000 in
set_option maxHeartbeats 1000000 in
theorem textsSize_any (d : ByteArray) (w : World) (hd : d.size ≤ 1048576) :
  Calls Tryz.prog 180 #[.agg #[], .string d] w fun e w' => e = szEnd (txtS d) ∧ Below w.heap.size w w' := by
 have hfl := fieldText
 have HC := hide' (fun w => countedSize_any d w hd)
 have hB0 : Below w.heap.size w (w.alloc (.cells #[] 193)) := (Below.refl _ _).alloc (Nat.le_refl _) _
 cases hc : cntS d with
 | none =>
  have e : txtS d = none := by unfold txtS; rw [hc]
  rw [e]
  rw [hc] at HC
  go_enter Tryz.func180, Tryz.ntmps180
  go_wp2_with (go_at_call 175; refine (HC.out _).mono ?_; rintro e w1 ⟨rfl, hB1⟩; simp only [szEnd])
  exact ⟨rfl, rfl, bstep hB0 hB1 hB0.size⟩
 | some n =>
  have HE : Hid (txtS d = txtP (d.size + 1) d n) := by unfold Hid txtS; rw [hc]
  obtain ⟨hn1, hn2⟩ := cntS_some hc
  rw [hc] at HC
  clear hc
  go_enter Tryz.func180, Tryz.ntmps180
  go_wp2_with (go_at_call 175; refine (HC.out _).mono ?_; rintro e w1 ⟨rfl, hB1⟩; simp only [szEnd])
  have hBw1 : Below w.heap.size w w1 := bstep hB0 hB1 hB0.size
  clear hB1 hB0 HC
  go_loopw [5] (fun av wr => ∃ a f : Nat, av = .int .i64 a ∧ a ≤ d.size ∧ Hid (d.size < f + a ∧ txtS d = txtP f d a) ∧ Below w1.heap.size w1 wr) (fun av _ => d.size - (intOf av).toNat)
  case atStart => exact ⟨n, d.size + 1, rfl, hn2, ⟨by omega, HE.out⟩, Below.refl _ _⟩
  case round =>
   obtain ⟨a, f, rfl, ha, HF, hBr⟩ := hrel
   by_cases hlt : a < d.size
   ·cases f with
    | zero => exact absurd HF.out.1 (by omega)
    | succ f =>
     have hz : (d.extract a d.size).size = d.size - a := size_extract' _ _ _ (Nat.le_refl _)
     have HC := hide' (fun w => countedSize_any (d.extract a d.size) w (by omega))
     have hF := HF.out.2
     have hf1 := HF.out.1
     unfold txtP at hF
     rw [if_neg (by omega)] at hF
     cases hc : cntS (d.extract a d.size) with
     | none =>
      rw [hc] at hF HC
      have HE2 : Hid (txtS d = none) := hF
      clear hF hc HF hz HE
      go_wp2_with (go_at_call 175; refine (HC.out _).mono ?_; rintro e w2 ⟨rfl, hB2⟩; simp only [szEnd])
      exact ⟨rfl, by rw [HE2.out]; rfl, bstep hBw1 (bstep hBr hB2 hBr.size) hBw1.size⟩
     | some m =>
      rw [hc] at hF HC
      obtain ⟨hm1, hm2⟩ := cntS_some hc
      have HE2 : Hid (d.size < f + (a + m) ∧ txtS d = txtP f d (a + m)) := ⟨by omega, hF⟩
      have hm3 : a + m ≤ d.size := by omega
      clear hF hc HF hz HE hm2
      go_wp2_with (go_at_call 175; refine (HC.out _).mono ?_; rintro e w2 ⟨rfl, hB2⟩; simp only [szEnd])
      exact ⟨⟨a + m, f, by simp, hm3, HE2, bstep hBr hB2 hBr.size⟩, by show d.size - ((a : Int) + m).toNat < d.size - (a : Int).toNat; omega⟩
   ·have hae : a = d.size := by omega
    have HE2 : Hid (txtS d = some a) := by
     have h1 := HF.out.1
     have h2 := HF.out.2
     cases f with
     | zero => omega
     | succ f => unfold txtP at h2; rw [if_pos (by omega)] at h2; exact h2
    clear HF HE
    subst hae
    go_wp2
    go_ret
    exact ⟨by rw [HE2.out]; rfl, bstep hBw1 hBr hBw1.size⟩
end Go.Proofs.YtoabnpdoicbpiaaGreat
namespace Go.Proofs.YtoabnpdoicbpiaaGreat
set_option linter.unusedVariables false
open Go.RowKit Go.Shelf Go.Proofs.YtoabnpdoicbpiaaGreat.Nm
def domP : Nat → ByteArray → Nat → Option Nat
 | 0, _, _ => none
 | f + 1, d, e => if bt d (e - 1) = 0 then some e else if d.size < e + bt d (e - 1) + 1 then none else domP f d (e + bt d (e - 1) + 1)
def domS (d : ByteArray) : Option Nat := if d.size < 1 then none else match domP (d.size + 1) d 1 with
 | none => none
 | some e => if isN (d.extract 0 e) = true then some e else none
set_option maxRecDepth 100000 in
set_option maxHeartbeats 1000000 in
theorem domainSize_any (d : ByteArray) (w : World) (hd : d.size ≤ 1048576) :
  Calls Tryz.prog 167 #[.agg #[], .string d] w fun e w' => e = szEnd (domS d) ∧ Below w.heap.size w w' := by
 have hB0 : Below w.heap.size w (w.alloc (.cells #[] 178)) := (Below.refl _ _).alloc (Nat.le_refl _) _
 by_cases h1 : d.size < 1
 ·have HE : Hid (domS d = none) := by unfold Hid domS; rw [if_pos h1]
  go_enter Tryz.func167, Tryz.ntmps167
  go_wp2_with (go_at_call 168; refine (need_out d _ _ hd (by omega) (by omega)).mono ?_; rintro e w' ⟨rfl, rfl⟩)
  exact ⟨rfl, by rw [HE.out]; rfl, hB0⟩
 ·have HS : Hid (domS d = match domP (d.size + 1) d 1 with | none => none | some e => if isN (d.extract 0 e) = true then some e else none) := by unfold Hid domS; rw [if_neg h1]
  go_enter Tryz.func167, Tryz.ntmps167
  go_wp2_with (go_at_call 168; refine (need_in d _ _ hd (by omega) (by omega)).mono ?_; rintro e w' ⟨rfl, rfl⟩)
  obtain ⟨w0, hw0⟩ : ∃ w0, w.alloc (.cells #[] 178) = w0 := ⟨_, rfl⟩
  rw [hw0] at hB0
  simp only [hw0]
  clear hw0
  go_loopw [5] (fun av wr => ∃ a f : Nat, av = .int .i64 ((a : Int) + 1) ∧ a + 1 ≤ d.size ∧ Hid (d.size < f + (a + 1) ∧ domP (d.size + 1) d 1 = domP f d (a + 1)) ∧ wr = w0) (fun av _ => d.size + 1 - (intOf av).toNat)
  case atStart => exact ⟨0, d.size + 1, rfl, by omega, ⟨by omega, rfl⟩, rfl⟩
  case round =>
   obtain ⟨a, f, rfl, ha, HF, rfl⟩ := hrel
   obtain ⟨y, hy, HY, hyl⟩ := bt_wrap (s := d) (i := a) (by omega)
   cases f with
   | zero => exact absurd HF.out.1 (by omega)
   | succ f =>
    have hF := HF.out.2
    have hf1 := HF.out.1
    conv at hF => rhs; unfold domP
    rw [show a + 1 - 1 = a by omega, HY] at hF
    by_cases hy0 : y = 0
    ·rw [if_pos hy0] at hF
     subst hy0
     have hz : (d.extract 0 (a + 1)).size = a + 1 := by rw [size_extract' _ _ _ ha]; omega
     have HK := hide' (fun w => check_any (d.extract 0 (a + 1)) w (by rw [hz]; unfold maxLen; omega))
     clear hz
     by_cases hN : isN (d.extract 0 (a + 1)) = true
     ·have HE : Hid (domS d = some (a + 1)) := by unfold Hid; rw [HS.out, hF]; show (if _ then _ else _) = _; rw [if_pos hN]
      have hck : chk (d.extract 0 (a + 1)) = 0 := by unfold chk; rw [if_pos hN]
      rw [hck] at HK
      clear hck hN hF HF HS HY
      go_wp2_with (go_at_call 10; refine (HK.out _).mono ?_; rintro e w2 ⟨rfl, hB2⟩)
      go_ret
      exact ⟨by rw [HE.out]; simp [szEnd], bstep hB0 hB2 hB0.size⟩
     ·have HE : Hid (domS d = none) := by unfold Hid; rw [HS.out, hF]; show (if _ then _ else _) = _; rw [if_neg hN]
      have hck : chk (d.extract 0 (a + 1)) = 1 := by unfold chk; rw [if_neg hN]
      rw [hck] at HK
      clear hck hN hF HF HS HY
      go_wp2_with (first
       | (go_at_call 10; refine (HK.out _).mono ?_; rintro e w2 ⟨rfl, hB2⟩)
       | (go_at_call 120; refine (throw_any 7 0 _).mono ?_; rintro e w' ⟨rfl, rfl⟩))
      exact ⟨rfl, by rw [HE.out]; rfl, bstep hB0 hB2 hB0.size⟩
    ·rw [if_neg hy0] at hF
     have hy0' : ((y : Int) != 0) = true := by rw [bne_iff_ne]; omega
     by_cases hl : d.size < a + 1 + y + 1
     ·rw [if_pos hl] at hF
      have HE : Hid (domS d = none) := by unfold Hid; rw [HS.out, hF]
      clear hF HF HS HY
      go_wp2_with (go_at_call 168; refine (need_out d _ _ hd (by omega) (by omega)).mono ?_; rintro e w' ⟨rfl, rfl⟩)
      exact ⟨rfl, by rw [HE.out]; rfl, hB0⟩
     ·rw [if_neg hl] at hF
      have HF2 : Hid (d.size < f + (a + 1 + y + 1) ∧ domP (d.size + 1) d 1 = domP f d (a + 1 + y + 1)) := ⟨by omega, hF⟩
      clear hF HF HS HY
      go_wp2_with (go_at_call 168; refine (need_in d _ _ hd (by omega) (by omega)).mono ?_; rintro e w' ⟨rfl, rfl⟩)
      exact ⟨⟨a + 1 + y, f, by simp, by omega, HF2, by first | rfl | trivial⟩, by show d.size + 1 - ((a : Int) + 1 + y + 1).toNat < d.size + 1 - ((a : Int) + 1).toNat; omega⟩
end Go.Proofs.YtoabnpdoicbpiaaGreat
namespace Go.Proofs.YtoabnpdoicbpiaaGreat
set_option linter.unusedVariables false
open Go.RowKit Go.Shelf Go.Proofs.YtoabnpdoicbpiaaGreat.Nm
def isDT (t : Int) : Bool := isTy t && !decide (t = 41) && !decide (128 ≤ t ∧ t ≤ 255)
set_option maxRecDepth 100000 in
theorem isDataType_any (t : Int) (w : World) :
  Calls Tryz.prog 137 #[.int .i64 t] w fun e w' => e = .returned (.bool (isDT t)) ∧ w' = w := by
 cases h : isTy t with
 | false =>
  have HI : Hid (isTy t = false) := h
  have HE : Hid (isDT t = false) := by unfold Hid isDT; rw [h]; rfl
  clear h
  go_enter Tryz.func137, Tryz.ntmps137
  go_wp2_with (go_at_call 144; refine (isType_any _ _).mono ?_; rintro e w2 ⟨rfl, rfl⟩; rw [HI.out])
  go_ret
  exact ⟨by rw [HE.out]; rfl, rfl⟩
 | true =>
  have HI : Hid (isTy t = true) := h
  by_cases h1 : t = 41
  ·have HE : Hid (isDT t = false) := by unfold Hid isDT; simp [h1]
   clear h
   subst h1
   go_enter Tryz.func137, Tryz.ntmps137
   go_wp2_with (go_at_call 144; refine (isType_any _ _).mono ?_; rintro e w2 ⟨rfl, rfl⟩; rw [HI.out])
   go_ret
   exact ⟨by rw [HE.out]; rfl, rfl⟩
  ·by_cases h2 : 128 ≤ t
   ·by_cases h3 : t ≤ 255
    ·have HE : Hid (isDT t = false) := by unfold Hid isDT; simp [h2, h3]
     clear h
     go_enter Tryz.func137, Tryz.ntmps137
     go_wp2_with (go_at_call 144; refine (isType_any _ _).mono ?_; rintro e w2 ⟨rfl, rfl⟩; rw [HI.out])
     go_ret
     exact ⟨by rw [HE.out]; show Ending.returned (Value.bool _) = Ending.returned (Value.bool _); congr 2; simp; omega, rfl⟩
    ·have HE : Hid (isDT t = true) := by unfold Hid isDT; rw [h]; simp [h1, h3]
     clear h
     go_enter Tryz.func137, Tryz.ntmps137
     go_wp2_with (go_at_call 144; refine (isType_any _ _).mono ?_; rintro e w2 ⟨rfl, rfl⟩; rw [HI.out])
     go_ret
     exact ⟨by rw [HE.out]; show Ending.returned (Value.bool _) = Ending.returned (Value.bool _); congr 2; simp; omega, rfl⟩
   ·have HE : Hid (isDT t = true) := by unfold Hid isDT; rw [h]; simp [h1]; omega
    clear h
    go_enter Tryz.func137, Tryz.ntmps137
    go_wp2_with (go_at_call 144; refine (isType_any _ _).mono ?_; rintro e w2 ⟨rfl, rfl⟩; rw [HI.out])
    go_ret
    exact ⟨by rw [HE.out]; show Ending.returned (Value.bool _) = Ending.returned (Value.bool _); congr 2; simp; omega, rfl⟩
end Go.Proofs.YtoabnpdoicbpiaaGreat
namespace Go.Proofs.YtoabnpdoicbpiaaGreat
set_option linter.unusedVariables false
open Go.RowKit Go.Shelf Go.Proofs.YtoabnpdoicbpiaaGreat.Nm
abbrev Kind := Nat
abbrev Kind.ip4 : Kind := 0
abbrev Kind.ip6 : Kind := 1
abbrev Kind.dom : Kind := 2
abbrev Kind.text : Kind := 3
abbrev Kind.texts : Kind := 4
abbrev Kind.hex : Kind := 5
abbrev Kind.b64 : Kind := 6
abbrev Kind.salt : Kind := 7
abbrev Kind.hash : Kind := 8
abbrev Kind.set : Kind := 9
abbrev Kind.one : Kind := 10
abbrev Kind.tail : Kind := 11
abbrev Kind.unknown : Kind := 12
abbrev Kind.num (n : Nat) : Kind := n + 13
theorem kind_cases (k : Nat) : k = Kind.ip4 ∨ k = Kind.ip6 ∨ k = Kind.dom ∨ k = Kind.text ∨ k = Kind.texts ∨ k = Kind.hex ∨ k = Kind.b64 ∨ k = Kind.salt ∨ k = Kind.hash ∨ k = Kind.set ∨ k = Kind.one ∨ k = Kind.tail ∨ k = Kind.unknown ∨ ∃ n, k = Kind.num n := by
 rcases Nat.lt_or_ge k 13 with h | h
 ·have : k = 0 ∨ k = 1 ∨ k = 2 ∨ k = 3 ∨ k = 4 ∨ k = 5 ∨ k = 6 ∨ k = 7 ∨ k = 8 ∨ k = 9 ∨ k = 10 ∨ k = 11 ∨ k = 12 := by omega
  rcases this with h | h | h | h | h | h | h | h | h | h | h | h | h
  ·exact .inl h
  ·exact .inr (.inl h)
  ·exact .inr (.inr (.inl h))
  ·exact .inr (.inr (.inr (.inl h)))
  ·exact .inr (.inr (.inr (.inr (.inl h))))
  ·exact .inr (.inr (.inr (.inr (.inr (.inl h)))))
  ·exact .inr (.inr (.inr (.inr (.inr (.inr (.inl h))))))
  ·exact .inr (.inr (.inr (.inr (.inr (.inr (.inr (.inl h)))))))
  ·exact .inr (.inr (.inr (.inr (.inr (.inr (.inr (.inr (.inl h))))))))
  ·exact .inr (.inr (.inr (.inr (.inr (.inr (.inr (.inr (.inr (.inl h)))))))))
  ·exact .inr (.inr (.inr (.inr (.inr (.inr (.inr (.inr (.inr (.inr (.inl h))))))))))
  ·exact .inr (.inr (.inr (.inr (.inr (.inr (.inr (.inr (.inr (.inr (.inr (.inl h)))))))))))
  ·exact .inr (.inr (.inr (.inr (.inr (.inr (.inr (.inr (.inr (.inr (.inr (.inr (.inl h))))))))))))
 ·exact .inr (.inr (.inr (.inr (.inr (.inr (.inr (.inr (.inr (.inr (.inr (.inr (.inr ⟨k - 13, by show (k : Nat) = k - 13 + 13; omega⟩))))))))))))
def kindV : Kind → Value
 | 0 => .iface 189 (.agg #[])
 | 1 => .iface 194 (.agg #[])
 | 2 => .iface 178 (.agg #[])
 | 3 => .iface 192 (.agg #[])
 | 4 => .iface 193 (.agg #[])
 | 5 => .iface 197 (.agg #[])
 | 6 => .iface 199 (.agg #[])
 | 7 => .iface 201 (.agg #[])
 | 8 => .iface 202 (.agg #[])
 | 9 => .iface 200 (.agg #[])
 | 10 => .iface 198 (.agg #[])
 | 11 => .iface 203 (.agg #[])
 | 12 => .iface 204 (.agg #[])
 | n + 13 => .iface 188 (.agg #[.int .i64 (n : Int)])
def kindsOf (t : Int) : Option (List Kind) :=
 if t = 1 then some [.ip4] else
 if t = 2 ∨ t = 5 ∨ t = 12 ∨ t = 39 then some [.dom] else
 if t = 6 then some [.dom, .dom, .num 4, .num 4, .num 4, .num 4, .num 4] else
 if t = 13 then some [.text, .text] else
 if t = 15 then some [.num 2, .dom] else
 if t = 16 then some [.texts] else
 if t = 28 then some [.ip6] else
 if t = 33 then some [.num 2, .num 2, .num 2, .dom] else
 if t = 35 then some [.num 2, .num 2, .text, .text, .text, .dom] else
 if t = 43 then some [.num 2, .num 1, .num 1, .hex] else
 if t = 46 then some [.one, .num 1, .num 1, .num 4, .num 4, .num 4, .num 2, .dom, .b64] else
 if t = 47 then some [.dom, .set] else
 if t = 48 then some [.num 2, .num 1, .num 1, .b64] else
 if t = 50 then some [.num 1, .num 1, .num 2, .salt, .hash, .set] else
 if t = 51 then some [.num 1, .num 1, .num 2, .salt] else
 if t = 257 then some [.num 1, .text, .tail] else
 if isDT t = true then some [.unknown] else none
def fldEnd (w : World) (r : Option (List Kind)) (e : Ending) (w' : World) : Prop := match r with
 | some ks => ∃ g, e = .returned (.slice (some ⟨g, 0, none⟩) ks.length ks.length) ∧ w.heap.size ≤ g ∧ w'.heap[g]? = some (.cells (ks.map kindV).toArray 156 (0, 0))
 | none => e = .panicked (flt 6 0)
theorem new3 (w : World) (o1 o2 o3 o : Obj) : ((((w.alloc o1).alloc o2).alloc o3).alloc o).heap[w.heap.size + 1 + 1 + 1]? = some o := by
 have := World.alloc_heap_new (((w.alloc o1).alloc o2).alloc o3) o
 rw [World.size_alloc, World.size_alloc, World.size_alloc] at this; exact this
theorem below3 (w : World) (o1 o2 o3 : Obj) : Below w.heap.size w (((w.alloc o1).alloc o2).alloc o3) :=
 (((Below.refl _ w).alloc (Nat.le_refl _) _).alloc (by simp) _).alloc (by simp; omega) _
theorem below4 (w : World) (o1 o2 o3 o : Obj) : Below w.heap.size w ((((w.alloc o1).alloc o2).alloc o3).alloc o) := (below3 w o1 o2 o3).alloc (below3 w o1 o2 o3).size _
set_option maxRecDepth 100000 in
set_option maxHeartbeats 4000000 in
theorem fieldsOf_any (t : Int) (w : World) :
  Calls Tryz.prog 119 #[.int .i64 t] w fun e w' => fldEnd w (kindsOf t) e w' ∧ Below w.heap.size w w' := by
 by_cases h1 : t = 1
 ·subst h1
  have HE : Hid (kindsOf 1 = some [.ip4]) := rfl
  skip
  go_enter Tryz.func119, Tryz.ntmps119
  go_wp2
  go_ret
  exact ⟨by rw [HE.out]; exact ⟨_, rfl, by omega, new3 w _ _ _ _⟩, below4 w _ _ _ _⟩
 by_cases h2 : t = 2
 ·subst h2
  have HE : Hid (kindsOf 2 = some [.dom]) := rfl
  skip
  go_enter Tryz.func119, Tryz.ntmps119
  go_wp2
  go_ret
  exact ⟨by rw [HE.out]; exact ⟨_, rfl, by omega, new3 w _ _ _ _⟩, below4 w _ _ _ _⟩
 by_cases h5 : t = 5
 ·subst h5
  have HE : Hid (kindsOf 5 = some [.dom]) := rfl
  skip
  go_enter Tryz.func119, Tryz.ntmps119
  go_wp2
  go_ret
  exact ⟨by rw [HE.out]; exact ⟨_, rfl, by omega, new3 w _ _ _ _⟩, below4 w _ _ _ _⟩
 by_cases h12 : t = 12
 ·subst h12
  have HE : Hid (kindsOf 12 = some [.dom]) := rfl
  skip
  go_enter Tryz.func119, Tryz.ntmps119
  go_wp2
  go_ret
  exact ⟨by rw [HE.out]; exact ⟨_, rfl, by omega, new3 w _ _ _ _⟩, below4 w _ _ _ _⟩
 by_cases h39 : t = 39
 ·subst h39
  have HE : Hid (kindsOf 39 = some [.dom]) := rfl
  skip
  go_enter Tryz.func119, Tryz.ntmps119
  go_wp2
  go_ret
  exact ⟨by rw [HE.out]; exact ⟨_, rfl, by omega, new3 w _ _ _ _⟩, below4 w _ _ _ _⟩
 by_cases h6 : t = 6
 ·subst h6
  have HE : Hid (kindsOf 6 = some [.dom, .dom, .num 4, .num 4, .num 4, .num 4, .num 4]) := rfl
  skip
  go_enter Tryz.func119, Tryz.ntmps119
  go_wp2
  go_ret
  exact ⟨by rw [HE.out]; exact ⟨_, rfl, by omega, new3 w _ _ _ _⟩, below4 w _ _ _ _⟩
 by_cases h13 : t = 13
 ·subst h13
  have HE : Hid (kindsOf 13 = some [.text, .text]) := rfl
  skip
  go_enter Tryz.func119, Tryz.ntmps119
  go_wp2
  go_ret
  exact ⟨by rw [HE.out]; exact ⟨_, rfl, by omega, new3 w _ _ _ _⟩, below4 w _ _ _ _⟩
 by_cases h15 : t = 15
 ·subst h15
  have HE : Hid (kindsOf 15 = some [.num 2, .dom]) := rfl
  skip
  go_enter Tryz.func119, Tryz.ntmps119
  go_wp2
  go_ret
  exact ⟨by rw [HE.out]; exact ⟨_, rfl, by omega, new3 w _ _ _ _⟩, below4 w _ _ _ _⟩
 by_cases h16 : t = 16
 ·subst h16
  have HE : Hid (kindsOf 16 = some [.texts]) := rfl
  skip
  go_enter Tryz.func119, Tryz.ntmps119
  go_wp2
  go_ret
  exact ⟨by rw [HE.out]; exact ⟨_, rfl, by omega, new3 w _ _ _ _⟩, below4 w _ _ _ _⟩
 by_cases h28 : t = 28
 ·subst h28
  have HE : Hid (kindsOf 28 = some [.ip6]) := rfl
  skip
  go_enter Tryz.func119, Tryz.ntmps119
  go_wp2
  go_ret
  exact ⟨by rw [HE.out]; exact ⟨_, rfl, by omega, new3 w _ _ _ _⟩, below4 w _ _ _ _⟩
 by_cases h33 : t = 33
 ·subst h33
  have HE : Hid (kindsOf 33 = some [.num 2, .num 2, .num 2, .dom]) := rfl
  skip
  go_enter Tryz.func119, Tryz.ntmps119
  go_wp2
  go_ret
  exact ⟨by rw [HE.out]; exact ⟨_, rfl, by omega, new3 w _ _ _ _⟩, below4 w _ _ _ _⟩
 by_cases h35 : t = 35
 ·subst h35
  have HE : Hid (kindsOf 35 = some [.num 2, .num 2, .text, .text, .text, .dom]) := rfl
  skip
  go_enter Tryz.func119, Tryz.ntmps119
  go_wp2
  go_ret
  exact ⟨by rw [HE.out]; exact ⟨_, rfl, by omega, new3 w _ _ _ _⟩, below4 w _ _ _ _⟩
 by_cases h43 : t = 43
 ·subst h43
  have HE : Hid (kindsOf 43 = some [.num 2, .num 1, .num 1, .hex]) := rfl
  skip
  go_enter Tryz.func119, Tryz.ntmps119
  go_wp2
  go_ret
  exact ⟨by rw [HE.out]; exact ⟨_, rfl, by omega, new3 w _ _ _ _⟩, below4 w _ _ _ _⟩
 by_cases h46 : t = 46
 ·subst h46
  have HE : Hid (kindsOf 46 = some [.one, .num 1, .num 1, .num 4, .num 4, .num 4, .num 2, .dom, .b64]) := rfl
  skip
  go_enter Tryz.func119, Tryz.ntmps119
  go_wp2
  go_ret
  exact ⟨by rw [HE.out]; exact ⟨_, rfl, by omega, new3 w _ _ _ _⟩, below4 w _ _ _ _⟩
 by_cases h47 : t = 47
 ·subst h47
  have HE : Hid (kindsOf 47 = some [.dom, .set]) := rfl
  skip
  go_enter Tryz.func119, Tryz.ntmps119
  go_wp2
  go_ret
  exact ⟨by rw [HE.out]; exact ⟨_, rfl, by omega, new3 w _ _ _ _⟩, below4 w _ _ _ _⟩
 by_cases h48 : t = 48
 ·subst h48
  have HE : Hid (kindsOf 48 = some [.num 2, .num 1, .num 1, .b64]) := rfl
  skip
  go_enter Tryz.func119, Tryz.ntmps119
  go_wp2
  go_ret
  exact ⟨by rw [HE.out]; exact ⟨_, rfl, by omega, new3 w _ _ _ _⟩, below4 w _ _ _ _⟩
 by_cases h50 : t = 50
 ·subst h50
  have HE : Hid (kindsOf 50 = some [.num 1, .num 1, .num 2, .salt, .hash, .set]) := rfl
  skip
  go_enter Tryz.func119, Tryz.ntmps119
  go_wp2
  go_ret
  exact ⟨by rw [HE.out]; exact ⟨_, rfl, by omega, new3 w _ _ _ _⟩, below4 w _ _ _ _⟩
 by_cases h51 : t = 51
 ·subst h51
  have HE : Hid (kindsOf 51 = some [.num 1, .num 1, .num 2, .salt]) := rfl
  skip
  go_enter Tryz.func119, Tryz.ntmps119
  go_wp2
  go_ret
  exact ⟨by rw [HE.out]; exact ⟨_, rfl, by omega, new3 w _ _ _ _⟩, below4 w _ _ _ _⟩
 by_cases h257 : t = 257
 ·subst h257
  have HE : Hid (kindsOf 257 = some [.num 1, .text, .tail]) := rfl
  skip
  go_enter Tryz.func119, Tryz.ntmps119
  go_wp2
  go_ret
  exact ⟨by rw [HE.out]; exact ⟨_, rfl, by omega, new3 w _ _ _ _⟩, below4 w _ _ _ _⟩
 have HK : Hid (kindsOf t = if isDT t = true then some [.unknown] else none) := by
  unfold Hid kindsOf
  simp only [h1, h2, h5, h12, h39, h6, h13, h15, h16, h28, h33, h35, h43, h46, h47, h48, h50, h51, h257, or_self, if_false]
 cases hd : isDT t with
 | true =>
  have HI : Hid (isDT t = true) := hd
  have HE : Hid (kindsOf t = some [.unknown]) := by unfold Hid; rw [HK.out, if_pos hd]
  clear hd HK
  go_enter Tryz.func119, Tryz.ntmps119
  go_wp2_with (go_at_call 137; refine (isDataType_any _ _).mono ?_; rintro e w2 ⟨rfl, rfl⟩; rw [HI.out])
  go_ret
  exact ⟨by rw [HE.out]; exact ⟨_, rfl, by omega, new3 w _ _ _ _⟩, below4 w _ _ _ _⟩
 | false =>
  have HI : Hid (isDT t = false) := hd
  have HE : Hid (kindsOf t = none) := by unfold Hid; rw [HK.out, if_neg (by rw [hd]; decide)]
  clear hd HK
  go_enter Tryz.func119, Tryz.ntmps119
  go_wp2_with (first
   | (go_at_call 137; refine (isDataType_any _ _).mono ?_; rintro e w2 ⟨rfl, rfl⟩; rw [HI.out])
   | (go_at_call 120; refine (throw_any 6 0 _).mono ?_; rintro e w' ⟨rfl, rfl⟩))
  exact ⟨rfl, by rw [HE.out]; rfl, below3 w _ _ _⟩
end Go.Proofs.YtoabnpdoicbpiaaGreat
