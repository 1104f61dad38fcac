import Derived.Test.YtclonjmhbgllkaaDoorMath
/-
  Plain facts on files of entries: no program, no memory. (The verifier's own text.)
-/
namespace Go.Proofs.YtclonjmhbgllkaaDoor.Nm
set_option linter.unusedVariables false

def isBl (b : Nat) : Bool := b == 32 || b == 9 || b == 13
def isStop (b : Nat) : Bool := isBl b || b == 10 || b == 59 || b == 40 || b == 41 || b == 34

/-- where a word without quotes ends, from k on -/
def wEnd (s : ByteArray) (k : Nat) : Option Nat :=
  if k < s.size then
    if isStop (bt s k) = true then some k
    else if bt s k = 92 then
      if k + 1 < s.size ∧ bt s (k + 1) ≠ 10 then wEnd s (k + 2) else none
    else wEnd s (k + 1)
  else some k

/-- where the quotes are closed, from k on -/
def qEnd (s : ByteArray) (k : Nat) : Option Nat :=
  if k < s.size then
    if bt s k = 92 then
      if k + 1 < s.size ∧ bt s (k + 1) ≠ 10 then qEnd s (k + 2) else none
    else if bt s k = 34 then some k
    else if bt s k = 10 then none
    else qEnd s (k + 1)
  else none

/-- where a remark ends -/
def rEnd (s : ByteArray) (k : Nat) : Nat := if k < s.size then if bt s k ≠ 10 then rEnd s (k + 1) else k else k
theorem rEnd_eq (s : ByteArray) (k : Nat) : rEnd s k = if k < s.size ∧ bt s k ≠ 10 then rEnd s (k + 1) else k := by
  rw [rEnd]
  by_cases h1 : k < s.size
  · by_cases h2 : bt s k ≠ 10
    · rw [if_pos h1, if_pos h2, if_pos ⟨h1, h2⟩]
    · rw [if_pos h1, if_neg h2, if_neg (fun h => h2 h.2)]
  · rw [if_neg h1, if_neg (fun h => h1 h.1)]

structure Wd where
  t : ByteArray
  q : Bool
structure En where
  l : Nat
  b : Bool
  ws : List Wd

def tokW (s : ByteArray) (k : Nat) : Option (Wd × Nat) :=
  if bt s k = 34 then (qEnd s (k + 1)).map (fun e => (⟨s.extract (k + 1) e, true⟩, e + 1))
  else (wEnd s k).map (fun e => (⟨s.extract k e, false⟩, e))

theorem wEnd_le (s : ByteArray) (k e : Nat) (hk : k ≤ s.size) (h : wEnd s k = some e) : k ≤ e ∧ e ≤ s.size := by
  fun_induction wEnd s k with
  | case1 k h1 h2 => simp at h; omega
  | case2 k h1 h2 h3 h4 ih => have := ih (by omega) h; omega
  | case3 => cases h
  | case4 k h1 h2 h3 ih => have := ih (by omega) h; omega
  | case5 k h1 => simp at h; omega
theorem wEnd_lt (s : ByteArray) (k e : Nat) (hk : k < s.size) (hs : isStop (bt s k) = false) (h : wEnd s k = some e) : k < e ∧ e ≤ s.size := by
  rw [wEnd, if_pos hk, if_neg (by rw [hs]; simp)] at h
  split at h
  · split at h
    · have := wEnd_le s _ e (by omega) h; omega
    · cases h
  · have := wEnd_le s _ e (by omega) h; omega
theorem qEnd_le (s : ByteArray) (k e : Nat) (h : qEnd s k = some e) : k ≤ e ∧ e < s.size := by
  fun_induction qEnd s k with
  | case1 k h1 h2 h3 ih => have := ih h; omega
  | case2 => cases h
  | case3 k h1 h2 h3 => simp at h; omega
  | case4 => cases h
  | case5 k h1 h2 h3 h4 ih => have := ih h; omega
  | case6 => cases h
theorem rEnd_le (s : ByteArray) (k : Nat) (hk : k ≤ s.size) : k ≤ rEnd s k ∧ rEnd s k ≤ s.size := by
  fun_induction rEnd s k with
  | case1 k h1 h2 ih => have := ih (by omega); omega
  | case2 k h1 h2 => omega
  | case3 k h1 => omega
theorem rEnd_lt (s : ByteArray) (k : Nat) (hk : k < s.size) (h : bt s k ≠ 10) : k < rEnd s k ∧ rEnd s k ≤ s.size := by
  rw [rEnd_eq, if_pos ⟨hk, h⟩]; have := rEnd_le s (k + 1) (by omega); omega
theorem tokW_lt {s : ByteArray} {k : Nat} {x : Wd} {e : Nat} (hk : k < s.size) (hs : isStop (bt s k) = false ∨ bt s k = 34) (h : tokW s k = some (x, e)) : k < e ∧ e ≤ s.size := by
  unfold tokW at h
  split at h
  · cases hq : qEnd s (k + 1) with
    | none => rw [hq] at h; cases h
    | some y => rw [hq] at h; simp at h; have := qEnd_le s _ _ hq; omega
  · cases hw : wEnd s k with
    | none => rw [hw] at h; cases h
    | some y =>
      rw [hw] at h; simp at h
      have := wEnd_lt s k y hk (by rcases hs with hs | hs; exact hs; contradiction) hw; omega

/-- an entry that is wrong (error, line), or a right one (place and line behind it, words) -/
abbrev Er := (Nat × Nat) ⊕ (Nat × Nat × List Wd)

/-- the rest of an entry: at k, on line l, within the '(' of line o (0: none), behind the words ws -/
def ent (s : ByteArray) (k l o : Nat) (ws : List Wd) : Er :=
  if k < s.size then
    if bt s k = 10 then if o = 0 then .inr ((k + 1), (l + 1), ws) else ent s (k + 1) (l + 1) o ws
    else if isBl (bt s k) = true then ent s (k + 1) l o ws
    else if bt s k = 40 then if o = 0 then ent s (k + 1) l l ws else .inl (2, l)
    else if bt s k = 41 then if o = 0 then .inl (2, l) else ent s (k + 1) l 0 ws
    else if bt s k = 59 then if k < rEnd s k then ent s (rEnd s k) l o ws else .inl (0, 0)
    else match tokW s k with
      | none => .inl (2, l)
      | some x => if k < x.2 then ent s x.2 l o (ws ++ [x.1]) else .inl (0, 0)
  else if o = 0 then .inr ((k + 1), (l + 1), ws) else .inl (10, o)

theorem ent_good (s : ByteArray) (k l o : Nat) (ws : List Wd) (k' l' : Nat) (ws' : List Wd) (hk : k ≤ s.size) (h : ent s k l o ws = .inr (k', l', ws')) :
    k < k' ∧ k' ≤ s.size + 1 ∧ l < l' ∧ l' + k ≤ l + k' ∧ ws'.length + k ≤ ws.length + k' := by
  fun_induction ent s k l o ws with
  | case1 => simp at h; obtain ⟨rfl, rfl, rfl⟩ := h; omega
  | case2 k l o ws h1 h2 h3 ih => have := ih (by omega) h; omega
  | case3 k l o ws h1 h2 h3 ih => have := ih (by omega) h; omega
  | case4 k l ws h1 h2 h3 h4 ih => have := ih (by omega) h; omega
  | case5 => cases h
  | case6 => cases h
  | case7 k l o ws h1 h2 h3 h4 h5 h6 ih => have := ih (by omega) h; omega
  | case8 k l o ws h1 h2 h3 h4 h5 h6 h7 ih => have := rEnd_le s k (by omega); have := ih (by omega) h; omega
  | case9 => cases h
  | case10 => cases h
  | case11 k l o ws h1 h2 h3 h4 h5 h6 x hx h7 ih =>
    have hst : isStop (bt s k) = false ∨ bt s k = 34 := by
      by_cases h34 : bt s k = 34
      · exact .inr h34
      · left; simp [isStop, h2, h3, h4, h5, h6, h34]
    have := tokW_lt (x := x.1) (e := x.2) h1 hst hx
    have := ih (by omega) h
    simp at this; omega
  | case12 => cases h
  | case13 => simp at h; obtain ⟨rfl, rfl, rfl⟩ := h; omega
  | case14 => cases h

/-- what is wrong (error, line), or all entries -/
abbrev Rs := (Nat × Nat) ⊕ List En

def putE (out : List En) (l : Nat) (b : Bool) (ws : List Wd) : List En := if ws.length = 0 then out else out ++ [⟨l, b, ws⟩]

/-- the entries from k on, behind those of out -/
def ents (s : ByteArray) (k l : Nat) (out : List En) : Rs :=
  if k < s.size then
    match ent s k l 0 [] with
    | .inl (c, l) => .inl (c, l)
    | .inr (k', l', ws) => if k < k' then ents s k' l' (putE out l (isBl (bt s k)) ws) else .inl (0, 0)
  else .inr out
def entsB (s : ByteArray) : Rs := ents s 0 1 []
end Go.Proofs.YtclonjmhbgllkaaDoor.Nm
