import Derived.Test.YtlgogddobjkngaaSz1G
namespace Go.Proofs.Ytlgogddobjkngaa
set_option linter.unusedVariables false
open Go.RowKit Go.Shelf Go.Proofs.Ytlgogddobjkngaa.Nm

/-- a kind of field: a number up to 12, or 13 and a number's bytes -/
abbrev Kind := Nat
abbrev Kind.ip4 : Kind := 0
abbrev Kind.ip6 : Kind := 1
abbrev Kind.dom : Kind := 2
abbrev Kind.text : Kind := 3
abbrev Kind.texts : Kind := 4
abbrev Kind.hex : Kind := 5
abbrev Kind.b64 : Kind := 6
abbrev Kind.salt : Kind := 7
abbrev Kind.hash : Kind := 8
abbrev Kind.set : Kind := 9
abbrev Kind.one : Kind := 10
abbrev Kind.tail : Kind := 11
abbrev Kind.unknown : Kind := 12
abbrev Kind.num (n : Nat) : Kind := n + 13
theorem kind_cases (k : Nat) : k = Kind.ip4 ∨ k = Kind.ip6 ∨ k = Kind.dom ∨ k = Kind.text ∨ k = Kind.texts ∨ k = Kind.hex ∨ k = Kind.b64 ∨ k = Kind.salt ∨ k = Kind.hash ∨ k = Kind.set ∨ k = Kind.one ∨ k = Kind.tail ∨ k = Kind.unknown ∨ ∃ n, k = Kind.num n := by
  rcases Nat.lt_or_ge k 13 with h | h
  · have : k = 0 ∨ k = 1 ∨ k = 2 ∨ k = 3 ∨ k = 4 ∨ k = 5 ∨ k = 6 ∨ k = 7 ∨ k = 8 ∨ k = 9 ∨ k = 10 ∨ k = 11 ∨ k = 12 := by omega
    rcases this with h | h | h | h | h | h | h | h | h | h | h | h | h
    · exact .inl h
    · exact .inr (.inl h)
    · exact .inr (.inr (.inl h))
    · exact .inr (.inr (.inr (.inl h)))
    · exact .inr (.inr (.inr (.inr (.inl h))))
    · exact .inr (.inr (.inr (.inr (.inr (.inl h)))))
    · exact .inr (.inr (.inr (.inr (.inr (.inr (.inl h))))))
    · exact .inr (.inr (.inr (.inr (.inr (.inr (.inr (.inl h)))))))
    · exact .inr (.inr (.inr (.inr (.inr (.inr (.inr (.inr (.inl h))))))))
    · exact .inr (.inr (.inr (.inr (.inr (.inr (.inr (.inr (.inr (.inl h)))))))))
    · exact .inr (.inr (.inr (.inr (.inr (.inr (.inr (.inr (.inr (.inr (.inl h))))))))))
    · exact .inr (.inr (.inr (.inr (.inr (.inr (.inr (.inr (.inr (.inr (.inr (.inl h)))))))))))
    · exact .inr (.inr (.inr (.inr (.inr (.inr (.inr (.inr (.inr (.inr (.inr (.inr (.inl h))))))))))))
  · exact .inr (.inr (.inr (.inr (.inr (.inr (.inr (.inr (.inr (.inr (.inr (.inr (.inr ⟨k - 13, by show (k : Nat) = k - 13 + 13; omega⟩))))))))))))
/-- .. as a value of the program -/
def kindV : Kind → Value
  | 0 => .iface 127 (.agg #[])
  | 1 => .iface 132 (.agg #[])
  | 2 => .iface 123 (.agg #[])
  | 3 => .iface 130 (.agg #[])
  | 4 => .iface 131 (.agg #[])
  | 5 => .iface 135 (.agg #[])
  | 6 => .iface 137 (.agg #[])
  | 7 => .iface 139 (.agg #[])
  | 8 => .iface 140 (.agg #[])
  | 9 => .iface 138 (.agg #[])
  | 10 => .iface 136 (.agg #[])
  | 11 => .iface 141 (.agg #[])
  | 12 => .iface 143 (.agg #[])
  | n + 13 => .iface 126 (.agg #[.int .i64 (n : Int)])
/-- the fields of a type -/
def kindsOf (t : Int) : Option (List Kind) :=
  if t = 1 then some [.ip4] else
  if t = 2 ∨ t = 5 ∨ t = 12 ∨ t = 39 then some [.dom] else
  if t = 6 then some [.dom, .dom, .num 4, .num 4, .num 4, .num 4, .num 4] else
  if t = 13 then some [.text, .text] else
  if t = 15 then some [.num 2, .dom] else
  if t = 16 then some [.texts] else
  if t = 28 then some [.ip6] else
  if t = 33 then some [.num 2, .num 2, .num 2, .dom] else
  if t = 35 then some [.num 2, .num 2, .text, .text, .text, .dom] else
  if t = 43 then some [.num 2, .num 1, .num 1, .hex] else
  if t = 46 then some [.one, .num 1, .num 1, .num 4, .num 4, .num 4, .num 2, .dom, .b64] else
  if t = 47 then some [.dom, .set] else
  if t = 48 then some [.num 2, .num 1, .num 1, .b64] else
  if t = 50 then some [.num 1, .num 1, .num 2, .salt, .hash, .set] else
  if t = 51 then some [.num 1, .num 1, .num 2, .salt] else
  if t = 257 then some [.num 1, .text, .tail] else
  if isDT t = true then some [.unknown] else none
/-- how the fields of a type end -/
def fldEnd (w : World) (r : Option (List Kind)) (e : Ending) (w' : World) : Prop := match r with
  | some ks => ∃ g, e = .returned (.slice (some ⟨g, 0, none⟩) ks.length ks.length) ∧ w.heap.size ≤ g ∧ w'.heap[g]? = some (.cells (ks.map kindV).toArray 113 (0, 0))
  | none => e = .panicked (flt 6 0)

theorem new3 (w : World) (o1 o2 o3 o : Obj) : ((((w.alloc o1).alloc o2).alloc o3).alloc o).heap[w.heap.size + 1 + 1 + 1]? = some o := by
  have := World.alloc_heap_new (((w.alloc o1).alloc o2).alloc o3) o
  rw [World.size_alloc, World.size_alloc, World.size_alloc] at this; exact this
theorem below3 (w : World) (o1 o2 o3 : Obj) : Below w.heap.size w (((w.alloc o1).alloc o2).alloc o3) :=
  (((Below.refl _ w).alloc (Nat.le_refl _) _).alloc (by simp) _).alloc (by simp; omega) _
theorem below4 (w : World) (o1 o2 o3 o : Obj) : Below w.heap.size w ((((w.alloc o1).alloc o2).alloc o3).alloc o) := (below3 w o1 o2 o3).alloc (below3 w o1 o2 o3).size _

set_option maxRecDepth 100000 in
set_option maxHeartbeats 4000000 in
/-- data.fieldsOf -/
theorem fieldsOf_any (t : Int) (w : World) :
    Calls Try.prog 50 #[.int .i64 t] w fun e w' => fldEnd w (kindsOf t) e w' ∧ Below w.heap.size w w' := by
  by_cases h1 : t = 1
  · subst h1
    have HE : Hid (kindsOf 1 = some [.ip4]) := rfl
    skip
    go_enter Try.func50, Try.ntmps50
    go_wp2
    go_ret
    exact ⟨by rw [HE.out]; exact ⟨_, rfl, by omega, new3 w _ _ _ _⟩, below4 w _ _ _ _⟩
  by_cases h2 : t = 2
  · subst h2
    have HE : Hid (kindsOf 2 = some [.dom]) := rfl
    skip
    go_enter Try.func50, Try.ntmps50
    go_wp2
    go_ret
    exact ⟨by rw [HE.out]; exact ⟨_, rfl, by omega, new3 w _ _ _ _⟩, below4 w _ _ _ _⟩
  by_cases h5 : t = 5
  · subst h5
    have HE : Hid (kindsOf 5 = some [.dom]) := rfl
    skip
    go_enter Try.func50, Try.ntmps50
    go_wp2
    go_ret
    exact ⟨by rw [HE.out]; exact ⟨_, rfl, by omega, new3 w _ _ _ _⟩, below4 w _ _ _ _⟩
  by_cases h12 : t = 12
  · subst h12
    have HE : Hid (kindsOf 12 = some [.dom]) := rfl
    skip
    go_enter Try.func50, Try.ntmps50
    go_wp2
    go_ret
    exact ⟨by rw [HE.out]; exact ⟨_, rfl, by omega, new3 w _ _ _ _⟩, below4 w _ _ _ _⟩
  by_cases h39 : t = 39
  · subst h39
    have HE : Hid (kindsOf 39 = some [.dom]) := rfl
    skip
    go_enter Try.func50, Try.ntmps50
    go_wp2
    go_ret
    exact ⟨by rw [HE.out]; exact ⟨_, rfl, by omega, new3 w _ _ _ _⟩, below4 w _ _ _ _⟩
  by_cases h6 : t = 6
  · subst h6
    have HE : Hid (kindsOf 6 = some [.dom, .dom, .num 4, .num 4, .num 4, .num 4, .num 4]) := rfl
    skip
    go_enter Try.func50, Try.ntmps50
    go_wp2
    go_ret
    exact ⟨by rw [HE.out]; exact ⟨_, rfl, by omega, new3 w _ _ _ _⟩, below4 w _ _ _ _⟩
  by_cases h13 : t = 13
  · subst h13
    have HE : Hid (kindsOf 13 = some [.text, .text]) := rfl
    skip
    go_enter Try.func50, Try.ntmps50
    go_wp2
    go_ret
    exact ⟨by rw [HE.out]; exact ⟨_, rfl, by omega, new3 w _ _ _ _⟩, below4 w _ _ _ _⟩
  by_cases h15 : t = 15
  · subst h15
    have HE : Hid (kindsOf 15 = some [.num 2, .dom]) := rfl
    skip
    go_enter Try.func50, Try.ntmps50
    go_wp2
    go_ret
    exact ⟨by rw [HE.out]; exact ⟨_, rfl, by omega, new3 w _ _ _ _⟩, below4 w _ _ _ _⟩
  by_cases h16 : t = 16
  · subst h16
    have HE : Hid (kindsOf 16 = some [.texts]) := rfl
    skip
    go_enter Try.func50, Try.ntmps50
    go_wp2
    go_ret
    exact ⟨by rw [HE.out]; exact ⟨_, rfl, by omega, new3 w _ _ _ _⟩, below4 w _ _ _ _⟩
  by_cases h28 : t = 28
  · subst h28
    have HE : Hid (kindsOf 28 = some [.ip6]) := rfl
    skip
    go_enter Try.func50, Try.ntmps50
    go_wp2
    go_ret
    exact ⟨by rw [HE.out]; exact ⟨_, rfl, by omega, new3 w _ _ _ _⟩, below4 w _ _ _ _⟩
  by_cases h33 : t = 33
  · subst h33
    have HE : Hid (kindsOf 33 = some [.num 2, .num 2, .num 2, .dom]) := rfl
    skip
    go_enter Try.func50, Try.ntmps50
    go_wp2
    go_ret
    exact ⟨by rw [HE.out]; exact ⟨_, rfl, by omega, new3 w _ _ _ _⟩, below4 w _ _ _ _⟩
  by_cases h35 : t = 35
  · subst h35
    have HE : Hid (kindsOf 35 = some [.num 2, .num 2, .text, .text, .text, .dom]) := rfl
    skip
    go_enter Try.func50, Try.ntmps50
    go_wp2
    go_ret
    exact ⟨by rw [HE.out]; exact ⟨_, rfl, by omega, new3 w _ _ _ _⟩, below4 w _ _ _ _⟩
  by_cases h43 : t = 43
  · subst h43
    have HE : Hid (kindsOf 43 = some [.num 2, .num 1, .num 1, .hex]) := rfl
    skip
    go_enter Try.func50, Try.ntmps50
    go_wp2
    go_ret
    exact ⟨by rw [HE.out]; exact ⟨_, rfl, by omega, new3 w _ _ _ _⟩, below4 w _ _ _ _⟩
  by_cases h46 : t = 46
  · subst h46
    have HE : Hid (kindsOf 46 = some [.one, .num 1, .num 1, .num 4, .num 4, .num 4, .num 2, .dom, .b64]) := rfl
    skip
    go_enter Try.func50, Try.ntmps50
    go_wp2
    go_ret
    exact ⟨by rw [HE.out]; exact ⟨_, rfl, by omega, new3 w _ _ _ _⟩, below4 w _ _ _ _⟩
  by_cases h47 : t = 47
  · subst h47
    have HE : Hid (kindsOf 47 = some [.dom, .set]) := rfl
    skip
    go_enter Try.func50, Try.ntmps50
    go_wp2
    go_ret
    exact ⟨by rw [HE.out]; exact ⟨_, rfl, by omega, new3 w _ _ _ _⟩, below4 w _ _ _ _⟩
  by_cases h48 : t = 48
  · subst h48
    have HE : Hid (kindsOf 48 = some [.num 2, .num 1, .num 1, .b64]) := rfl
    skip
    go_enter Try.func50, Try.ntmps50
    go_wp2
    go_ret
    exact ⟨by rw [HE.out]; exact ⟨_, rfl, by omega, new3 w _ _ _ _⟩, below4 w _ _ _ _⟩
  by_cases h50 : t = 50
  · subst h50
    have HE : Hid (kindsOf 50 = some [.num 1, .num 1, .num 2, .salt, .hash, .set]) := rfl
    skip
    go_enter Try.func50, Try.ntmps50
    go_wp2
    go_ret
    exact ⟨by rw [HE.out]; exact ⟨_, rfl, by omega, new3 w _ _ _ _⟩, below4 w _ _ _ _⟩
  by_cases h51 : t = 51
  · subst h51
    have HE : Hid (kindsOf 51 = some [.num 1, .num 1, .num 2, .salt]) := rfl
    skip
    go_enter Try.func50, Try.ntmps50
    go_wp2
    go_ret
    exact ⟨by rw [HE.out]; exact ⟨_, rfl, by omega, new3 w _ _ _ _⟩, below4 w _ _ _ _⟩
  by_cases h257 : t = 257
  · subst h257
    have HE : Hid (kindsOf 257 = some [.num 1, .text, .tail]) := rfl
    skip
    go_enter Try.func50, Try.ntmps50
    go_wp2
    go_ret
    exact ⟨by rw [HE.out]; exact ⟨_, rfl, by omega, new3 w _ _ _ _⟩, below4 w _ _ _ _⟩
  have HK : Hid (kindsOf t = if isDT t = true then some [.unknown] else none) := by
    unfold Hid kindsOf
    simp only [h1, h2, h5, h12, h39, h6, h13, h15, h16, h28, h33, h35, h43, h46, h47, h48, h50, h51, h257, or_self, if_false]
  cases hd : isDT t with
  | true =>
    have HI : Hid (isDT t = true) := hd
    have HE : Hid (kindsOf t = some [.unknown]) := by unfold Hid; rw [HK.out, if_pos hd]
    clear hd HK
    go_enter Try.func50, Try.ntmps50
    go_wp2_with (go_at_call 52; refine (isDataType_any _ _).mono ?_; rintro e w2 ⟨rfl, rfl⟩; rw [HI.out])
    go_ret
    exact ⟨by rw [HE.out]; exact ⟨_, rfl, by omega, new3 w _ _ _ _⟩, below4 w _ _ _ _⟩
  | false =>
    have HI : Hid (isDT t = false) := hd
    have HE : Hid (kindsOf t = none) := by unfold Hid; rw [HK.out, if_neg (by rw [hd]; decide)]
    clear hd HK
    go_enter Try.func50, Try.ntmps50
    go_wp2_with (first
      | (go_at_call 52; refine (isDataType_any _ _).mono ?_; rintro e w2 ⟨rfl, rfl⟩; rw [HI.out])
      | (go_at_call 51; refine (throw_any 6 0 _).mono ?_; rintro e w' ⟨rfl, rfl⟩))
    exact ⟨rfl, by rw [HE.out]; rfl, below3 w _ _ _⟩
end Go.Proofs.Ytlgogddobjkngaa
