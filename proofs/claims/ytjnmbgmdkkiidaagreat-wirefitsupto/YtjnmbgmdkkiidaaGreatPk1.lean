import Derived.Test.YtjnmbgmdkkiidaaGreatWc3G
import Derived.Maps.OwnSet
namespace Go.Proofs.YtjnmbgmdkkiidaaGreat.Nm
set_option linter.unusedVariables false

/-- the places that are noted, the last one first -/
abbrev Tab := List (ByteArray × Nat)
def tabF : Tab → ByteArray → Option Nat
  | [], _ => none
  | (k, p) :: t, n => if k = n then some p else tabF t n
/-- a message under way: its bytes, and what is noted -/
structure PS where
  out : ByteArray
  tab : Tab
/-- a number in so many bytes, the highest first -/
def numB (n size : Nat) : ByteArray := bts ((List.range size).map fun i => n / 256 ^ (size - 1 - i) % 256)
theorem numB_size (n size : Nat) : (numB n size).size = size := by simp [numB, bts_size]
/-- (*packer).name, of the labels -/
def nameL : List ByteArray → PS → PS
  | [], s => ⟨s.out ++ ⟨#[0]⟩, s.tab⟩
  | x :: l, s => match tabF s.tab (putB (x :: l)) with
    | some p => ⟨s.out ++ numB (49152 + p) 2, s.tab⟩
    | none => nameL l ⟨s.out ++ chunk x, if s.out.size ≤ 16383 then (putB (x :: l), s.out.size) :: s.tab else s.tab⟩
/-- what is noted lies low -/
def TabOK (t : Tab) : Prop := ∀ x ∈ t, x.2 ≤ 16383 ∧ x.1.size ≤ 255
theorem tabF_mem : ∀ {t : Tab} {n : ByteArray} {p : Nat}, tabF t n = some p → (n, p) ∈ t
  | [], _, _, h => by simp [tabF] at h
  | (k, q) :: t, n, p, h => by
    unfold tabF at h
    by_cases e : k = n
    · rw [if_pos e] at h; injection h with h; subst e; subst h; exact List.mem_cons_self
    · rw [if_neg e] at h; exact List.mem_cons_of_mem _ (tabF_mem h)
theorem TabOK.le {t : Tab} (h : TabOK t) {n : ByteArray} {p : Nat} (e : tabF t n = some p) : p ≤ 16383 := (h _ (tabF_mem e)).1
theorem nameL_ok : ∀ (l : List ByteArray) (s : PS), TabOK s.tab → (putB l).size ≤ 255 → TabOK (nameL l s).tab
  | [], s, h, _ => h
  | x :: l, s, h, hs => by
    unfold nameL
    cases e : tabF s.tab (putB (x :: l)) with
    | some p => exact h
    | none =>
      refine nameL_ok l _ ?_ ?_
      · by_cases hz : s.out.size ≤ 16383
        · rw [if_pos hz]
          intro y hy
          rcases List.mem_cons.1 hy with rfl | hy
          · exact ⟨hz, hs⟩
          · exact h y hy
        · rw [if_neg hz]; exact h
      · have : (putB (x :: l)).size = (chunk x).size + (putB l).size := by rw [putB_cons, ByteArray.size_append]
        omega
/-- a name takes no more room than it has bytes -/
theorem nameL_size : ∀ (l : List ByteArray) (s : PS), (nameL l s).out.size ≤ s.out.size + (putB l).size ∧ s.out.size < (nameL l s).out.size
  | [], s => by
    unfold nameL
    have h1 : (⟨#[0]⟩ : ByteArray).size = 1 := rfl
    rw [labs_nil_putB]
    simp only [ByteArray.size_append, h1]; omega
  | x :: l, s => by
    unfold nameL
    have hp : (putB (x :: l)).size = (chunk x).size + (putB l).size := by rw [putB_cons, ByteArray.size_append]
    have hc := chunk_size x
    have hl : 1 ≤ (putB l).size := by rw [putB_size]; omega
    cases e : tabF s.tab (putB (x :: l)) with
    | some p => simp only [ByteArray.size_append, numB_size]; omega
    | none =>
      have := nameL_size l ⟨s.out ++ chunk x, if s.out.size ≤ 16383 then (putB (x :: l), s.out.size) :: s.tab else s.tab⟩
      simp only [ByteArray.size_append] at this ⊢
      omega
/-- bytes are written over what stands at a place -/
def putAt : ByteArray → Nat → List Nat → ByteArray
  | o, _, [] => o
  | o, k, x :: l => putAt ⟨o.data.setIfInBounds k (UInt8.ofNat x)⟩ (k + 1) l
theorem putAt_size : ∀ (l : List Nat) (o : ByteArray) (k : Nat), (putAt o k l).size = o.size
  | [], o, k => rfl
  | x :: l, o, k => by
    unfold putAt
    rw [putAt_size l]
    exact Array.size_setIfInBounds
theorem putAt_app : ∀ (l zl : List Nat) (o : ByteArray), zl.length = l.length → putAt (o ++ bts zl) o.size l = o ++ bts l
  | [], [], o, _ => rfl
  | x :: l, z :: zl, o, h => by
    have hs : (o ++ bts [x]).size = o.size + 1 := by rw [ByteArray.size_append, bts_size]; rfl
    have h1 : (⟨(o ++ bts (z :: zl)).data.setIfInBounds o.size (UInt8.ofNat x)⟩ : ByteArray) = (o ++ bts [x]) ++ bts zl := by
      apply ByteArray.ext
      apply Array.ext'
      have hz : o.size = o.data.toList.length := (Array.length_toList (xs := o.data)).symm
      simp only [Array.toList_setIfInBounds, ByteArray.data_append, Array.toList_append, bts, List.map_cons, List.map_nil, hz]
      rw [List.set_append_right _ _ (Nat.le_refl _)]
      simp
    unfold putAt
    rw [h1, ← hs, putAt_app l zl (o ++ bts [x]) (by simpa using h), ByteArray.append_assoc, ← bts_append]
    rfl
theorem strCells_set (o : ByteArray) (k x : Nat) (hx : x < 256) : Go.Lib.strCells ⟨o.data.setIfInBounds k (UInt8.ofNat x)⟩ = (Go.Lib.strCells o).set k (.int .u8 (x : Int)) := by
  unfold Go.Lib.strCells
  simp only [Array.toList_setIfInBounds, List.map_set]
  congr 1
  simp [Nat.mod_eq_of_lt hx]
end Go.Proofs.YtjnmbgmdkkiidaaGreat.Nm
