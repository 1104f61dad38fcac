import Derived.Test.YtjnmbgmdkkiidaaGreatFt1G
import Derived.Laws.AppendOwnNone
import Derived.Lib.SliceRun
import Derived.Deep.AppendLies
/-
  gazetteersame's Spare, Twin. (The verifier's own text.)
-/
namespace Go.Proofs.YtjnmbgmdkkiidaaGreat
set_option linter.unusedVariables false
open Go.RowKit Go.Shelf Go.Maps Go.Proofs.YtjnmbgmdkkiidaaGreat.Nm

def spT : ByteArray := ⟨#[115, 112, 97, 114, 101]⟩
/-- the record that no list has -/
def spR : Rn := ⟨spT, -77, -77, -77, spT⟩
theorem own_below {w w' : World} {b e s n : Nat} {v : Value} {xs : List Value} (h : w.ownsRow b e s v n xs) (hb : Below w.heap.size w w') : w'.ownsRow b e s v n xs := own_blk h (fun g eg => hb.block g (h.lt g eg).2)

theorem own_cap {w : World} {b e s n m c : Nat} {p : Option Addr} {xs : List Value} (h : w.ownsRow b e s (.slice p m c) n xs) : n ≤ c ∧ c ≤ maxLen := by
  obtain ⟨_, _, hsh, h1, h2, _⟩ := own_shape h
  injection hsh with _ _ hsh
  subst hsh
  exact ⟨h1, h2⟩
set_option maxRecDepth 100000 in
set_option maxHeartbeats 1000000 in
/-- gazetteersame.Spare -/
theorem spare_any (w : World) : Calls Tryz.prog 38 #[] w fun e w' => e = .returned (.agg #[.string spT, .int .i64 (-77), .int .i64 (-77), .int .i64 (-77), .string spT]) ∧ Below w.heap.size w w' := by
  have hB0 : ∀ o : Obj, Below w.heap.size w (w.alloc o) := fun o => (Below.refl _ w).alloc (Nat.le_refl _) o
  go_enter Tryz.func38, Tryz.ntmps38
  go_wp2
  refine bodyPost_ret (v := .agg #[.string spT, .int .i64 (-77), .int .i64 (-77), .int .i64 (-77), .string spT]) (by simp [results, go_sem]; rfl) rfl ⟨rfl, hB0 _⟩

set_option maxRecDepth 100000 in
set_option maxHeartbeats 2000000 in
/-- gazetteersame.Twin -/
theorem twin_any (L : List Rn) (p : Option Addr) (cap : Nat) (w : World) (hL : L.length ≤ 1048576) (hat : RsAt w p L) (hn : p = none → cap = 0) :
    Calls Tryz.prog 16 #[.slice p L.length cap] w fun r w' => ∃ g c, r = .returned (.slice (some ⟨g, 0, none⟩) L.length c) ∧ w'.ownsRow w.heap.size 59 5 (.slice (some ⟨g, 0, none⟩) (L.length + 2) c) (L.length + 2) (rce5 (L ++ [spR, spR])) ∧ Below w.heap.size w w' := by
  obtain ⟨i0, hi, hz0, hz1, hz2⟩ := info_parts infoR
  have HI := hide' (And.intro hi (And.intro hz0 (And.intro hz1 hz2)))
  clear hi hz0 hz1 hz2
  have T1 : Hid True := trivial
  cases p with
  | none =>
    obtain rfl : L = [] := by
      cases L with
      | nil => rfl
      | cons y l => obtain ⟨g, off, hp, _⟩ := hat 0 (by simp); cases hp
    obtain rfl := hn rfl
    go_enter Tryz.func16, Tryz.ntmps16
    go_wp2_with (first
      | (at_builtin; have _ := T1; clear T1; refine wpList_append_own_none rfl _ _ 23 rfl w.heap.size 59 i0 5 Tryz.underlying23 HI.out.1 (.slice none 0 0) 0 [] rfl (World.ownsRow_nil _ _ _ _) rfl ?_; have T2 : Hid True := trivial)
      | (go_at_call 38; have _ := T2; clear T2; refine (spare_any _).mono ?_; rintro e w1 ⟨rfl, hB1⟩; have HB1 := hide' hB1; clear hB1; have T3 : Hid True := trivial)
      | (go_at_call 38; have _ := T3; clear T3; refine (spare_any _).mono ?_; rintro e w2 ⟨rfl, hB2⟩; have HB2 := hide' (bstep HB1.out hB2 HB1.out.size); clear hB2; have T4 : Hid True := trivial)
      | (at_builtin; have _ := T4; clear T4; refine wpList_append_own _ rfl _ _ 23 rfl w.heap.size 59 i0 (.agg #[.string .empty, .int .i64 0, .int .i64 0, .int .i64 0, .string .empty]) 5 56 Tryz.underlying23 HI.out.1 HI.out.2.1 HI.out.2.2.1 HI.out.2.2.2 rfl (by decide) (.slice none 0 0) 0 [] rfl (World.ownsRow_nil _ _ _ _) ⟨_, 0, none⟩ 2 2 (rce5 [spR, spR]) rfl rfl (fun j u h => World.news_of_block (World.alloc_heap_new w2 (.cells #[.string spT, .int .i64 (-77), .int .i64 (-77), .int .i64 (-77), .string spT, .string spT, .int .i64 (-77), .int .i64 (-77), .int .i64 (-77), .string spT] 59)) j u h) (rce5_one _) (by unfold maxLen; omega) (by omega) (HB2.out.alloc HB2.out.size (.cells #[.string spT, .int .i64 (-77), .int .i64 (-77), .int .i64 (-77), .string spT, .string spT, .int .i64 (-77), .int .i64 (-77), .int .i64 (-77), .string spT] 59)).size ?_; intro v5 w5 hown5 hgrow5 _; obtain ⟨g5, c5, rfl⟩ := owns_some hown5 (by omega); have HO5 := hide' hown5; have HB5 := hide' ((HB2.out.alloc HB2.out.size (.cells #[.string spT, .int .i64 (-77), .int .i64 (-77), .int .i64 (-77), .string spT, .string spT, .int .i64 (-77), .int .i64 (-77), .int .i64 (-77), .string spT] 59)).grown hgrow5 (HB2.out.alloc HB2.out.size (.cells #[.string spT, .int .i64 (-77), .int .i64 (-77), .int .i64 (-77), .string spT, .string spT, .int .i64 (-77), .int .i64 (-77), .int .i64 (-77), .string spT] 59)).size (fun q e => by cases e)); have hc5 := own_cap hown5; clear hown5 hgrow5))
    go_ret
    exact ⟨g5, c5, rfl, HO5.out, HB5.out⟩
  | some ad =>
    have HA := hide' (fun j u => rs_news (hat : RsAt w (some ad) L) j u)
    have HRC : Hid (rce5 (L ++ [spR, spR]) = rce5 L ++ rce5 [spR, spR]) := by unfold Hid rce5; rw [List.flatMap_append]
    clear hat
    go_enter Tryz.func16, Tryz.ntmps16
    go_wp2_with (first
      | (at_builtin; have _ := T1; clear T1; refine wpList_append_own _ rfl _ _ 23 rfl w.heap.size 59 i0 (.agg #[.string .empty, .int .i64 0, .int .i64 0, .int .i64 0, .string .empty]) 5 56 Tryz.underlying23 HI.out.1 HI.out.2.1 HI.out.2.2.1 HI.out.2.2.2 rfl (by decide) (.slice none 0 0) 0 [] rfl (World.ownsRow_nil _ _ _ _) ad L.length cap (rce5 L) rfl (rce5_len L) HA.out (rce5_one L) (by unfold maxLen; omega) (by omega) (Nat.le_refl _) ?_; intro v0 w0 ho0 hg0 _; rw [Nat.zero_add, List.nil_append] at ho0; have HO0 := hide' ho0; have HB0 := hide' ((Below.refl w.heap.size w).grown hg0 (Nat.le_refl _) (fun q e => by cases e)); clear ho0 hg0; have T2 : Hid True := trivial)
      | (go_at_call 38; have _ := T2; clear T2; refine (spare_any _).mono ?_; rintro e w1 ⟨rfl, hB1⟩; have HO1 := hide' (own_below HO0.out hB1); have HB1 := hide' (bstep HB0.out hB1 HB0.out.size); clear hB1; have T3 : Hid True := trivial)
      | (go_at_call 38; have _ := T3; clear T3; refine (spare_any _).mono ?_; rintro e w2 ⟨rfl, hB2⟩; have HO2 := hide' (own_below HO1.out hB2); have HB2 := hide' (bstep HB1.out hB2 HB1.out.size); clear hB2; have T4 : Hid True := trivial)
      | (at_builtin; have _ := T4; clear T4; refine wpList_append_own _ rfl _ _ 23 rfl w.heap.size 59 i0 (.agg #[.string .empty, .int .i64 0, .int .i64 0, .int .i64 0, .string .empty]) 5 56 Tryz.underlying23 HI.out.1 HI.out.2.1 HI.out.2.2.1 HI.out.2.2.2 rfl (by decide) v0 L.length (rce5 L) rfl (HO2.out.alloc _) ⟨_, 0, none⟩ 2 2 (rce5 [spR, spR]) rfl rfl (fun j u h => World.news_of_block (World.alloc_heap_new w2 (.cells #[.string spT, .int .i64 (-77), .int .i64 (-77), .int .i64 (-77), .string spT, .string spT, .int .i64 (-77), .int .i64 (-77), .int .i64 (-77), .string spT] 59)) j u h) (rce5_one _) (by unfold maxLen; omega) (by omega) (HB2.out.alloc HB2.out.size (.cells #[.string spT, .int .i64 (-77), .int .i64 (-77), .int .i64 (-77), .string spT, .string spT, .int .i64 (-77), .int .i64 (-77), .int .i64 (-77), .string spT] 59)).size ?_; intro v5 w5 hown5 hgrow5 _; obtain ⟨g5, c5, rfl⟩ := owns_some hown5 (by omega); have HO5 := hide' hown5; have HB5 := hide' ((HB2.out.alloc HB2.out.size (.cells #[.string spT, .int .i64 (-77), .int .i64 (-77), .int .i64 (-77), .string spT, .string spT, .int .i64 (-77), .int .i64 (-77), .int .i64 (-77), .string spT] 59)).grown hgrow5 (HB2.out.alloc HB2.out.size (.cells #[.string spT, .int .i64 (-77), .int .i64 (-77), .int .i64 (-77), .string spT, .string spT, .int .i64 (-77), .int .i64 (-77), .int .i64 (-77), .string spT] 59)).size (fun q e => (HO2.out.lt q e).1)); have hc5 := own_cap hown5; clear hown5 hgrow5))
    go_ret
    exact ⟨g5, c5, rfl, by rw [HRC.out]; exact HO5.out, HB5.out⟩
end Go.Proofs.YtjnmbgmdkkiidaaGreat
