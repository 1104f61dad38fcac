import Derived.Test.YtelboefeomnjaaaPrtG
import Derived.Test.YtelboefeomnjaaaMath13G
import Derived.Laws.Runes
namespace Go.Proofs.Ytelboefeomnjaaa
set_option linter.unusedVariables false
open Go.RowKit Go.Shelf Go.Proofs.Ytelboefeomnjaaa.Nm

abbrev byts (l : List Nat) : List Value := l.map (fun x : Nat => Value.int .u8 (x : Int))

/-- 'string([]byte{a, b, c})' -/
theorem three_bytes (W : World) (a b c : Nat) (ha : a < 256) (hb : b < 256) (hc : c < 256) :
    (convert 84 9 (.slice (some ⟨W.heap.size, 0, none⟩) 3 3)).run Try.prog (W.alloc (.cells #[.int .u8 (a : Int), .int .u8 (b : Int), .int .u8 (c : Int)] 5)) = .ok (.string (bts [a, b, c])) (W.alloc (.cells #[.int .u8 (a : Int), .int .u8 (b : Int), .int .u8 (c : Int)] 5)) := by
  have hg : (W.alloc (.cells #[.int .u8 (a : Int), .int .u8 (b : Int), .int .u8 (c : Int)] 5)).heap[W.heap.size]? = some (.cells #[.int .u8 (a : Int), .int .u8 (b : Int), .int .u8 (c : Int)] 5 (0, 0)) := World.alloc_heap_new W _
  have hlt : ∀ x ∈ [a, b, c], x < 256 := by intro x hx; simp at hx; omega
  refine HoldsB.str (t := bts [a, b, c]) (f := fun j => [a, b, c].getD j 0) ⟨by simp, fun j hj => ?_, fun j hj => ?_⟩ (fun j hj => ?_) 3
  · have hj' : j < 3 := by rw [bts_size] at hj; exact hj
    have : j = 0 ∨ j = 1 ∨ j = 2 := by omega
    unfold World.cell?
    rw [hg]
    rcases this with rfl | rfl | rfl <;> rfl
  · unfold World.frozen?
    rw [hg]; simp
  · have hj' : j < 3 := by rw [bts_size] at hj; exact hj
    rw [bts_bt _ hlt j hj']
    simp [List.getD_eq_getElem?_getD, List.getElem?_eq_getElem (show j < [a, b, c].length from hj')]

theorem index_nonneg (s : ByteArray) (b : Nat) (hb : b < 256) : decide (0 ≤ Lib.indexByte s.data.toList (b : Int).toNat.toUInt8) = amB s b := by
  rw [← Lib.firstIdx_eq, firstIdx_nonneg]
  have hc : ((b : Int).toNat.toUInt8).toNat = b := by
    show (UInt8.ofNat b).toNat = b
    rw [UInt8.toNat_ofNat']; omega
  rw [Bool.eq_iff_iff]
  constructor
  · intro h
    obtain ⟨x, hx, he⟩ := List.any_eq_true.1 h
    obtain ⟨j, hj, rfl⟩ := List.getElem_of_mem hx
    have hj' : j < s.size := by simpa using hj
    refine amB_true hj' ?_
    rw [← bt_list s j hj', eq_of_beq he, hc]
  · intro h
    unfold amB at h
    obtain ⟨j, hj, he⟩ := List.any_eq_true.1 h
    have hj' := List.mem_range.1 hj
    refine List.any_eq_true.2 ⟨s.data.toList[j]'(by simpa using hj'), List.getElem_mem _, ?_⟩
    rw [beq_iff_eq]
    apply UInt8.toNat_inj.1
    rw [bt_list s j hj', eq_of_beq he, hc]
theorem keeps_app {w2 w3 : World} {o : Obj} {ov : Value} {base e size n : Nat} {xs : List Value} (hown : w2.ownsRow base e size ov n xs) (hg : (w2.alloc o).grownBy w3 ov.ownBlock) : KeepsOthers w2 w3 := by
  refine (KeepsOthers.alloc w2 o).trans (KeepsOthers.of_grownBy hg fun j ob ej hj => ?_)
  rcases (hown.alloc o).2 with ⟨rfl, _⟩ | ⟨g, cap, cur, rfl, _, hgb, _⟩
  · simp [Value.ownBlock] at ej
  · obtain rfl : g = j := by simpa [Value.ownBlock] using ej
    rw [hgb] at hj; cases hj; rfl

theorem four_new (w : World) (a b c d : Value) (t : TypeId) : ∀ j u, [a, b, c, d][j]? = some u → (w.alloc (.cells #[a, b, c, d] t)).cell? ((⟨w.heap.size, 0, none⟩ : Addr).add j) = some u := by
  intro j u hj
  match j, hj with
  | 0, hj => simp at hj; subst hj; simp [Addr.add]
  | 1, hj => simp at hj; subst hj; simp [Addr.add]
  | 2, hj => simp at hj; subst hj; simp [Addr.add]
  | 3, hj => simp at hj; subst hj; simp [Addr.add]
  | j + 4, hj => simp at hj

end Go.Proofs.Ytelboefeomnjaaa
