import Derived.Test.YtkeibncmgplgkaaDoorMath15
namespace Go.Proofs.YtkeibncmgplgkaaDoor.Nm
set_option linter.unusedVariables false

/-- what comes of a written text: an error and its place; or its labels, and whether they are the whole name -/
structure Scan where
  code : Nat
  place : Nat
  labels : List ByteArray
  whole : Bool

/-- from place k on: the label under way begins at first and has the bytes now; ahead of it stand the labels l -/
def scan (t : ByteArray) : Nat → Nat → Nat → List Nat → List ByteArray → Scan
  | 0, k, first, now, l => ⟨0, 0, if now = [] then l else l ++ [bts now], decide (now = [])⟩
  | f + 1, k, first, now, l =>
    if t.size ≤ k then ⟨0, 0, if now = [] then l else l ++ [bts now], decide (now = [])⟩
    else if bt t k = 46 then
      if now = [] then ⟨2, k, [], false⟩ else scan t f (k + 1) (k + 1) [] (l ++ [bts now])
    else if (pc (t.extract k t.size)).2 = 0 then ⟨2, k, [], false⟩
    else if now.length = 63 then ⟨3, first, [], false⟩
    else scan t f (k + (pc (t.extract k t.size)).2) first (now ++ [(pc (t.extract k t.size)).1]) l

theorem scan_fuel (t : ByteArray) : ∀ (f g k first : Nat) (now : List Nat) (l : List ByteArray), t.size < f + k → t.size < g + k → scan t f k first now l = scan t g k first now l
  | 0, 0, k, first, now, l, _, _ => rfl
  | 0, g + 1, k, first, now, l, hf, hg => by
    unfold scan; rw [if_pos (show t.size ≤ k by omega)]
  | f + 1, 0, k, first, now, l, hf, hg => by
    unfold scan; rw [if_pos (show t.size ≤ k by omega)]
  | f + 1, g + 1, k, first, now, l, hf, hg => by
    unfold scan
    by_cases h0 : t.size ≤ k
    · rw [if_pos h0, if_pos h0]
    · rw [if_neg h0, if_neg h0]
      by_cases h1 : bt t k = 46
      · rw [if_pos h1, if_pos h1]
        by_cases h2 : now = []
        · rw [if_pos h2, if_pos h2]
        · rw [if_neg h2, if_neg h2]; exact scan_fuel t f g _ _ _ _ (by omega) (by omega)
      · rw [if_neg h1, if_neg h1]
        by_cases h3 : (pc (t.extract k t.size)).2 = 0
        · rw [if_pos h3, if_pos h3]
        · rw [if_neg h3, if_neg h3]
          by_cases h4 : now.length = 63
          · rw [if_pos h4, if_pos h4]
          · rw [if_neg h4, if_neg h4]; exact scan_fuel t f g _ _ _ _ (by omega) (by omega)

def scanT (t : ByteArray) (k first : Nat) (now : List Nat) (l : List ByteArray) : Scan := scan t (t.size + 1) k first now l
theorem scanT_end {t : ByteArray} {k first : Nat} {now : List Nat} {l : List ByteArray} (h : t.size ≤ k) : scanT t k first now l = ⟨0, 0, if now = [] then l else l ++ [bts now], decide (now = [])⟩ := by
  unfold scanT scan; rw [if_pos h]
theorem scanT_dot0 {t : ByteArray} {k first : Nat} {l : List ByteArray} (h : k < t.size) (hd : bt t k = 46) : scanT t k first [] l = ⟨2, k, [], false⟩ := by
  unfold scanT scan; rw [if_neg (by omega), if_pos hd, if_pos rfl]
theorem scanT_dot {t : ByteArray} {k first : Nat} {now : List Nat} {l : List ByteArray} (h : k < t.size) (hd : bt t k = 46) (hn : now ≠ []) : scanT t k first now l = scanT t (k + 1) (k + 1) [] (l ++ [bts now]) := by
  unfold scanT
  conv => lhs; unfold scan
  rw [if_neg (by omega), if_pos hd, if_neg hn]
  exact scan_fuel t _ _ _ _ _ _ (by omega) (by omega)
theorem scanT_bad {t : ByteArray} {k first : Nat} {now : List Nat} {l : List ByteArray} (h : k < t.size) (hd : bt t k ≠ 46) (hp : (pc (t.extract k t.size)).2 = 0) : scanT t k first now l = ⟨2, k, [], false⟩ := by
  unfold scanT scan; rw [if_neg (by omega), if_neg hd, if_pos hp]
theorem scanT_full {t : ByteArray} {k first : Nat} {now : List Nat} {l : List ByteArray} (h : k < t.size) (hd : bt t k ≠ 46) (hp : (pc (t.extract k t.size)).2 ≠ 0) (hn : now.length = 63) : scanT t k first now l = ⟨3, first, [], false⟩ := by
  unfold scanT scan; rw [if_neg (by omega), if_neg hd, if_neg hp, if_pos hn]
theorem scanT_byte {t : ByteArray} {k first : Nat} {now : List Nat} {l : List ByteArray} (h : k < t.size) (hd : bt t k ≠ 46) (hp : (pc (t.extract k t.size)).2 ≠ 0) (hn : now.length ≠ 63) :
    scanT t k first now l = scanT t (k + (pc (t.extract k t.size)).2) first (now ++ [(pc (t.extract k t.size)).1]) l := by
  unfold scanT
  conv => lhs; unfold scan
  rw [if_neg (by omega), if_neg hd, if_neg hp, if_neg hn]
  exact scan_fuel t _ _ _ _ _ _ (by omega) (by omega)
/-- a piece lies within the text, and its byte is one -/
theorem pc_le (r : ByteArray) (h : 0 < r.size) : (pc r).2 ≤ r.size ∧ (pc r).1 < 256 := by
  unfold pc
  have hb0 := bt_lt r 0
  have hb1 := bt_lt r 1
  split
  · exact ⟨h, hb0⟩
  · split
    · exact ⟨Nat.zero_le _, by omega⟩
    · split
      · exact ⟨by omega, hb1⟩
      · split
        · exact ⟨Nat.zero_le _, by omega⟩
        · split
          · exact ⟨Nat.zero_le _, by omega⟩
          · exact ⟨by omega, by omega⟩

/-- the name that a text tells: the name, the place, the error -/
def readB (t o : ByteArray) : ByteArray × Nat × Nat :=
  if isN o = false then (ByteArray.empty, 0, 1)
  else if t.size = 0 then (ByteArray.empty, 0, 2)
  else if t = bts [64] then (o, 0, 0)
  else if t = bts [46] then (bts [0], 0, 0)
  else
    if (scanT t 0 0 [] []).code ≠ 0 then (ByteArray.empty, (scanT t 0 0 [] []).place, (scanT t 0 0 [] []).code)
    else if 255 < (putB ((scanT t 0 0 [] []).labels ++ (if (scanT t 0 0 [] []).whole = true then [] else labs o))).size then (ByteArray.empty, 0, 4)
    else (putB ((scanT t 0 0 [] []).labels ++ (if (scanT t 0 0 [] []).whole = true then [] else labs o)), 0, 0)
end Go.Proofs.YtkeibncmgplgkaaDoor.Nm
