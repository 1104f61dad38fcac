import Derived.Test.YthabenjghhmicaaGreatCmpG
import Derived.Test.YthabenjghhmicaaGreatMath8G
import Derived.Test.YthabenjghhmicaaGreatMath13G
namespace Go.Proofs.YthabenjghhmicaaGreat
set_option linter.unusedVariables false
open Go.RowKit Go.Shelf Go.Proofs.YthabenjghhmicaaGreat.Nm

theorem owns_one (w : World) (t : TypeId) (u : Value) : (w.alloc (.cells #[u] t)).ownsRow w.heap.size t 1 (.slice (some ⟨w.heap.size, 0, none⟩) 1 1) 1 [u] :=
  ⟨rfl, .inr ⟨w.heap.size, 1, #[u], rfl, Nat.le_refl _, World.alloc_heap_new w _, Nat.le_refl _, by unfold maxLen; omega, rfl, rfl⟩⟩

/-- name.Star -/
theorem star_any (s : ByteArray) (w : World) (hm : s.size ≤ maxLen) :
    Calls Tryz.prog 29 #[.string s] w fun e w' => e = .returned (.string (starB s)) ∧ Below w.heap.size w w' := by
  cases hN : isN s with
  | false =>
    have HT : Hid (starB s = ByteArray.empty) := starB_no (fun e => by rw [hN] at e; cases e.1)
    go_enter Tryz.func29, Tryz.ntmps29
    go_wp2_with (go_at_call 66; refine (isName_any _ _ hm).mono ?_; rintro e w1 ⟨rfl, hB1⟩)
    go_ret
    exact ⟨by rw [HT.out]; rfl, hB1⟩
  | true =>
    have hz := ((isN_iff s).1 hN).1
    by_cases h253 : s.size ≤ 253
    · have HT : Hid (starB s = ⟨#[1, 42]⟩ ++ s) := starB_yes hN h253
      go_enter Tryz.func29, Tryz.ntmps29
      go_wp2_with (go_at_call 66; refine (isName_any _ _ hm).mono ?_; rintro e w1 ⟨rfl, hB1⟩)
      go_ret
      exact ⟨by rw [HT.out]; rfl, hB1⟩
    · have HT : Hid (starB s = ByteArray.empty) := starB_no (fun e => h253 e.2)
      have h253' : 253 < s.size := by omega
      go_enter Tryz.func29, Tryz.ntmps29
      go_wp2_with (go_at_call 66; refine (isName_any _ _ hm).mono ?_; rintro e w1 ⟨rfl, hB1⟩)
      go_ret
      exact ⟨by rw [HT.out]; rfl, hB1⟩

/-- strings.HasPrefix, at the star -/
theorem hasStar_any (s : ByteArray) (w : World) (hm : s.size ≤ 255) :
    Calls Tryz.prog 132 #[.string s, .string ⟨#[1, 42]⟩] w fun e w' => e = .returned (.bool (decide (2 ≤ s.size) && ((s.extract 0 2).toList == [1, 42]))) ∧ w' = w := by
  by_cases h : 2 ≤ s.size
  · have HD : Hid (decide (2 ≤ s.size) = true) := decide_eq_true h
    go_enter Tryz.func132, Tryz.ntmps132
    go_wp2
    go_ret
    exact ⟨by first | rfl | (rw [HD.out]; rfl), rfl⟩
  · have HD : Hid (decide (2 ≤ s.size) = false) := decide_eq_false h
    have h' : s.size < 2 := by omega
    go_enter Tryz.func132, Tryz.ntmps132
    go_wp2
    go_ret
    exact ⟨by first | rfl | (rw [HD.out]; rfl), rfl⟩
theorem hasPrefix_any (s : ByteArray) (w : World) (hm : s.size ≤ 255) :
    Calls Tryz.prog 115 #[.string s, .string ⟨#[1, 42]⟩] w fun e w' => e = .returned (.bool (decide (2 ≤ s.size) && ((s.extract 0 2).toList == [1, 42]))) ∧ w' = w := by
  go_enter Tryz.func115, Tryz.ntmps115
  go_wp2_with (go_at_call 132; refine (hasStar_any _ _ hm).mono ?_; rintro e w1 ⟨rfl, rfl⟩)
  go_ret
  exact ⟨rfl, rfl⟩

/-- name.IsStar -/
theorem isStar_any (s : ByteArray) (w : World) (hm : s.size ≤ maxLen) :
    Calls Tryz.prog 113 #[.string s] w fun e w' => e = .returned (.bool (isStarB s)) ∧ Below w.heap.size w w' := by
  cases hN : isN s with
  | false =>
    have HT : Hid (isStarB s = false) := by unfold Hid isStarB; rw [hN]; rfl
    go_enter Tryz.func113, Tryz.ntmps113
    go_wp2_with (go_at_call 66; refine (isName_any _ _ hm).mono ?_; rintro e w1 ⟨rfl, hB1⟩)
    go_ret
    exact ⟨by rw [HT.out]; rfl, hB1⟩
  | true =>
    have hz := ((isN_iff s).1 hN).1
    have HT : Hid (isStarB s = (decide (2 ≤ s.size) && ((s.extract 0 2).toList == [1, 42]))) := by
      unfold Hid isStarB
      rw [hN, Bool.true_and]
      by_cases h2 : 2 ≤ s.size
      · rw [prefix_star h2, decide_eq_true h2]; rfl
      · rw [decide_eq_false h2, Bool.false_and, decide_eq_false_iff_not]
        rintro ⟨h0, _⟩
        have hl : (labs s).length = 0 := by
          by_cases e : (labs s).length = 0
          · exact e
          · have := isStar_long hN (by omega); omega
        have := isStar_short hN hl
        omega
    go_enter Tryz.func113, Tryz.ntmps113
    go_wp2_with (first
      | (go_at_call 66; refine (isName_any _ _ hm).mono ?_; rintro e w1 ⟨rfl, hB1⟩)
      | (go_at_call 115; refine (hasPrefix_any _ _ hz).mono ?_; rintro e w2 ⟨rfl, rfl⟩))
    go_ret
    exact ⟨by rw [HT.out]; rfl, hB1⟩

/-- gazetteerref1.IsStar -/
theorem refIsStar_any (s : ByteArray) (w : World) (hs : s.size ≤ 1048576) :
    Calls Tryz.prog 89 #[.string s] w fun e w' => e = .returned (.bool (isStarB s)) ∧ Below w.heap.size w w' := by
  cases hN : isN s with
  | false =>
    have HT : Hid (isStarB s = false) := by unfold Hid isStarB; rw [hN]; rfl
    go_enter Tryz.func89, Tryz.ntmps89
    go_wp2_with (go_at_call 86; refine (split_no s _ hs hN).mono ?_; rintro e w1 ⟨v, rfl, hB1⟩)
    go_ret
    exact ⟨by rw [HT.out]; rfl, hB1⟩
  | true =>
    by_cases h0 : 0 < (labs s).length
    · have HT : Hid (isStarB s = ((labs s)[0].toList == [42])) := by
        unfold Hid isStarB; rw [hN, isStar_first hN h0]; rfl
      generalize hX : (labs s)[0] = X at *
      have HX : Hid ((labs s)[0] = X) := hX
      clear hX
      go_enter Tryz.func89, Tryz.ntmps89
      go_wp2_with (go_at_call 86; refine (split_yes s _ hs hN).mono ?_; rintro e w1 ⟨p, cap, rfl, ⟨hc, hcap, hcap2, _⟩, hB1⟩; obtain ⟨g, off, rfl, hg, hcell⟩ := hc 0 h0; rw [HX.out, Nat.add_zero] at hcell)
      go_ret
      exact ⟨by rw [HT.out]; rfl, hB1⟩
    · have HT : Hid (isStarB s = false) := by
        have := isStar_short hN (by omega)
        unfold Hid isStarB; rw [hN, this.1]; rfl
      have h0' : ¬ (0 : Int) < ((labs s).length : Int) := by omega
      go_enter Tryz.func89, Tryz.ntmps89
      go_wp2_with (go_at_call 86; refine (split_yes s _ hs hN).mono ?_; rintro e w1 ⟨p, cap, rfl, ⟨hc, hcap, hcap2, _⟩, hB1⟩)
      go_ret
      exact ⟨by rw [HT.out]; rfl, hB1⟩

set_option maxRecDepth 100000 in
set_option maxHeartbeats 1000000 in
/-- gazetteerref1.Star -/
theorem refStar_any (s : ByteArray) (w : World) (hs : s.size ≤ 1048576) :
    Calls Tryz.prog 57 #[.string s] w fun e w' => e = .returned (.string (starB s)) ∧ Below w.heap.size w w' := by
  cases hN : isN s with
  | false =>
    have HT : Hid (starB s = ByteArray.empty) := starB_no (fun e => by rw [hN] at e; cases e.1)
    go_enter Tryz.func57, Tryz.ntmps57
    go_wp2_with (go_at_call 86; refine (split_no s _ hs hN).mono ?_; rintro e w1 ⟨v, rfl, hB1⟩)
    go_ret
    exact ⟨by rw [HT.out]; rfl, hB1⟩
  | true =>
    have hz := ((isN_iff s).1 hN).1
    by_cases h253 : s.size ≤ 253
    · have HT : Hid (starB s = putB (⟨#[42]⟩ :: labs s)) := by unfold Hid; rw [starB_yes hN h253, starB_put hN]
      have hl := labs_len_le hN
      have HZ : Hid ((putB (⟨#[42]⟩ :: labs s)).size ≤ 4294967296) := by
        unfold Hid; rw [starB_put hN, ByteArray.size_append, show (⟨#[1, 42]⟩ : ByteArray).size = 2 from rfl]; omega
      have HO : Hid (∀ x ∈ ⟨#[42]⟩ :: labs s, x.size ≤ 255) := fun x hx => by
        rcases List.mem_cons.1 hx with rfl | h
        · decide
        · have := (labs_mem h).2; omega
      go_enter Tryz.func57, Tryz.ntmps57
      go_wp2_with (first
        | (go_at_call 86; refine (split_yes s _ hs hN).mono ?_; rintro e w1 ⟨p, cap, rfl, ⟨hc, hcap, hcap2, hnone⟩, hB1⟩; have HN : Hid (p = none → cap = 0) := hnone; clear hnone)
        | (at_builtin; refine wpList_append_strs rfl _ _ rfl w1.heap.size _ 1 [.string ⟨#[42]⟩] rfl (owns_one w1 9 (.string ⟨#[42]⟩)) p (labs s) cap rfl (hc.below ((Below.refl _ _).alloc (Nat.le_refl _) _)) HN.out (by omega) (by simp) ?_; intro v5 w5 hown5 hg5; have hB5 : Below w1.heap.size w1 w5 := ((Below.refl _ _).alloc (Nat.le_refl _) _).grown hg5 (by simp) (fun k e => ownBlock_le (owns_one w1 9 (.string ⟨#[42]⟩)) e); have hst : Strs w5 v5 (⟨#[42]⟩ :: labs s) := Strs.of_owns (base := w1.heap.size) (by rw [List.length_cons, Nat.add_comm]; exact hown5))
        | (go_at_call 96; refine (put_any _ (⟨#[42]⟩ :: labs s) _ hst HO.out HZ.out).mono ?_; rintro e w6 ⟨rfl, hB6⟩))
      go_ret
      exact ⟨by rw [HT.out]; rfl, ext_t (ext_t hB1 hB5) hB6⟩
    · have HT : Hid (starB s = ByteArray.empty) := starB_no (fun e => h253 e.2)
      have h253' : 253 < s.size := by omega
      go_enter Tryz.func57, Tryz.ntmps57
      go_wp2_with (go_at_call 86; refine (split_yes s _ hs hN).mono ?_; rintro e w1 ⟨p, cap, rfl, _, hB1⟩)
      go_ret
      exact ⟨by rw [HT.out]; rfl, hB1⟩

end Go.Proofs.YthabenjghhmicaaGreat

namespace Go.Proofs.YthabenjghhmicaaGreat
set_option linter.unusedVariables false
open Go.RowKit Go.Shelf Go.Proofs.YthabenjghhmicaaGreat.Nm

theorem Tryz.infoByte : (Tryz.prog.info? 5).map (fun i => (i.zero, i.size, i.bytes)) = some (some (.int .u8 0), 1, 1) := by kernel_rfl

/-- the bytes of an owned row, as a text -/
theorem owns_str {w : World} {base g cap : Nat} {t : ByteArray} (h : w.ownsRow base 5 1 (.slice (some ⟨g, 0, none⟩) t.size cap) t.size (Go.Lib.strCells t)) :
    (convert 131 9 (.slice (some ⟨g, 0, none⟩) t.size cap)).run Tryz.prog w = .ok (.string t) w := by
  obtain ⟨hl, (⟨h1, _⟩ | ⟨g', cap', cur, h1, hb, hg, hn, hcap, hsz, ht⟩)⟩ := h
  · cases h1
  · simp at h1
    obtain ⟨rfl, rfl⟩ := h1
    have hlen : t.data.toList.length = t.size := by simp
    have := run_convert_bytes_back (P := Tryz.prog) w 131 9 5 ⟨g, 0, none⟩ cap t.data.toList Tryz.underlying131 Tryz.underlying5 Tryz.underlying9 (fun j hj => by
      have hj' : j < t.size := by omega
      have hcur : cur[j]? = some (.int .u8 (t.data.toList[j].toNat : Int)) := by
        have := congrArg (fun l => l[j]?) ht
        simp only [Nat.mul_one] at this
        rw [List.getElem?_take, if_pos hj'] at this
        rw [← Array.getElem?_toList, this]
        unfold Go.Lib.strCells
        rw [List.getElem?_map, List.getElem?_eq_getElem hj]; rfl
      rw [addr_add, Nat.zero_add]
      simp [World.cell?, hg, hcur])
    rw [hlen] at this
    simpa using this
end Go.Proofs.YthabenjghhmicaaGreat

namespace Go.Proofs.YthabenjghhmicaaGreat
set_option linter.unusedVariables false
open Go.RowKit Go.Shelf Go.Proofs.YthabenjghhmicaaGreat.Nm

theorem owns_some {w : World} {base e size : Nat} {v : Value} {n : Nat} {xs : List Value} (h : w.ownsRow base e size v n xs) (hn : 0 < n) : ∃ g cap, v = .slice (some ⟨g, 0, none⟩) n cap := by
  obtain ⟨_, (⟨_, h0⟩ | ⟨g, cap, cur, rfl, _⟩)⟩ := h
  · omega
  · exact ⟨g, cap, rfl⟩

end Go.Proofs.YthabenjghhmicaaGreat
