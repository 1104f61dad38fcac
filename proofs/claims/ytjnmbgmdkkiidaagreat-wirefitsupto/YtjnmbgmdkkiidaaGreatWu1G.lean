import Derived.Test.YtjnmbgmdkkiidaaGreatMathG
import Derived.Test.YtjnmbgmdkkiidaaGreatWc3G
/-
  Plain facts on names that may be short: no program, no memory. (The verifier's own text.)
-/
namespace Go.Proofs.YtjnmbgmdkkiidaaGreat.Nm
set_option linter.unusedVariables false

/-- a name that may be short, from k on, up to en; st: where its row of labels began; ov: the error of running over en; had: how many bytes it has already -/
def rn (B : ByteArray) (k st en ov had : Nat) : Except Nat (ByteArray × Nat) :=
  if h1 : k < en then
    if bt B k = 0 then .ok (⟨#[0]⟩, k + 1)
    else if bt B k < 64 then
      if en < k + 1 + bt B k then .error ov
      else if 255 < had + 1 + bt B k + 1 then .error 4
      else match rn B (k + 1 + bt B k) st en ov (had + 1 + bt B k) with
        | .ok r => .ok (B.extract k (k + 1 + bt B k) ++ r.1, r.2)
        | .error e => .error e
    else if bt B k < 192 then .error 9
    else if en < k + 2 then .error ov
    else if h5 : (bt B k - 192) * 256 + bt B (k + 1) < st then
      match rn B ((bt B k - 192) * 256 + bt B (k + 1)) ((bt B k - 192) * 256 + bt B (k + 1)) B.size 10 had with
        | .ok r => .ok (r.1, k + 2)
        | .error e => .error e
    else .error 9
  else .error ov

theorem rn_end {B : ByteArray} {k st en ov had : Nat} (h : ¬ k < en) : rn B k st en ov had = .error ov := by rw [rn, dif_neg h]
theorem rn_zero {B : ByteArray} {k st en ov had : Nat} (h : k < en) (h0 : bt B k = 0) : rn B k st en ov had = .ok (⟨#[0]⟩, k + 1) := by rw [rn, dif_pos h, if_pos h0]
theorem rn_over {B : ByteArray} {k st en ov had : Nat} (h : k < en) (h0 : bt B k ≠ 0) (h6 : bt B k < 64) (ho : en < k + 1 + bt B k) : rn B k st en ov had = .error ov := by rw [rn, dif_pos h, if_neg h0, if_pos h6, if_pos ho]
theorem rn_long {B : ByteArray} {k st en ov had : Nat} (h : k < en) (h0 : bt B k ≠ 0) (h6 : bt B k < 64) (ho : ¬ en < k + 1 + bt B k) (hl : 255 < had + 1 + bt B k + 1) : rn B k st en ov had = .error 4 := by rw [rn, dif_pos h, if_neg h0, if_pos h6, if_neg ho, if_pos hl]
/-- what stands ahead of it -/
def pre (a : ByteArray) (r : Except Nat (ByteArray × Nat)) : Except Nat (ByteArray × Nat) := match r with | .ok r => .ok (a ++ r.1, r.2) | .error e => .error e
/-- what it goes on behind -/
def bhd (k : Nat) (r : Except Nat (ByteArray × Nat)) : Except Nat (ByteArray × Nat) := match r with | .ok r => .ok (r.1, k) | .error e => .error e
theorem rn_label {B : ByteArray} {k st en ov had : Nat} (h : k < en) (h0 : bt B k ≠ 0) (h6 : bt B k < 64) (ho : ¬ en < k + 1 + bt B k) (hl : ¬ 255 < had + 1 + bt B k + 1) : rn B k st en ov had = pre (B.extract k (k + 1 + bt B k)) (rn B (k + 1 + bt B k) st en ov (had + 1 + bt B k)) := by rw [rn, dif_pos h, if_neg h0, if_pos h6, if_neg ho, if_neg hl]; rfl
theorem rn_mid {B : ByteArray} {k st en ov had : Nat} (h : k < en) (h6 : ¬ bt B k < 64) (h9 : bt B k < 192) : rn B k st en ov had = .error 9 := by rw [rn, dif_pos h, if_neg (by omega), if_neg h6, if_pos h9]
theorem rn_short {B : ByteArray} {k st en ov had : Nat} (h : k < en) (h9 : ¬ bt B k < 192) (ho : en < k + 2) : rn B k st en ov had = .error ov := by rw [rn, dif_pos h, if_neg (by omega), if_neg (by omega), if_neg h9, if_pos ho]
theorem rn_far {B : ByteArray} {k st en ov had : Nat} (h : k < en) (h9 : ¬ bt B k < 192) (ho : ¬ en < k + 2) (hp : ¬ (bt B k - 192) * 256 + bt B (k + 1) < st) : rn B k st en ov had = .error 9 := by rw [rn, dif_pos h, if_neg (by omega), if_neg (by omega), if_neg h9, if_neg ho, dif_neg hp]
theorem rn_ptr {B : ByteArray} {k st en ov had : Nat} (h : k < en) (h9 : ¬ bt B k < 192) (ho : ¬ en < k + 2) (hp : (bt B k - 192) * 256 + bt B (k + 1) < st) : rn B k st en ov had = bhd (k + 2) (rn B ((bt B k - 192) * 256 + bt B (k + 1)) ((bt B k - 192) * 256 + bt B (k + 1)) B.size 10 had) := by rw [rn, dif_pos h, if_neg (by omega), if_neg (by omega), if_neg h9, if_neg ho, dif_pos hp]; rfl

theorem bt_ext {B : ByteArray} {k e i : Nat} (h : k + i < e) (he : e ≤ B.size) : bt (B.extract k e) i = bt B (k + i) := by
  have h1 : i < (B.extract k e).size := by simp [ByteArray.size_extract]; omega
  rw [← bt_eq h1, ← bt_eq (show k + i < B.size by omega), ByteArray.getElem_extract]

/-- a label is a chunk -/
theorem label_chunk {B : ByteArray} {k : Nat} (h : k + 1 + bt B k ≤ B.size) (h6 : bt B k < 64) : B.extract k (k + 1 + bt B k) = chunk (B.extract (k + 1) (k + 1 + bt B k)) := by
  have hs : (B.extract (k + 1) (k + 1 + bt B k)).size = bt B k := by simp [ByteArray.size_extract]; omega
  unfold chunk
  rw [hs]
  apply ByteArray.ext
  apply Array.ext
  · simp; omega
  · intro i h1 h2
    have hk : k < B.size := by omega
    have hb : B[k].toNat = bt B k := bt_eq hk
    cases i with
    | zero =>
      simp
      show B[k] = _
      rw [← hb]; simp
    | succ i =>
      simp
      congr 1; omega

theorem rn_ok {B : ByteArray} (k st en ov had : Nat) (s : ByteArray) (nx : Nat) (hE : en ≤ B.size) (hh : had ≤ 254) (h : rn B k st en ov had = .ok (s, nx)) : (∃ l, OkL l ∧ s = putB l) ∧ had + s.size ≤ 255 ∧ k < nx ∧ nx ≤ en := by
  by_cases h1 : k < en
  · by_cases h0 : bt B k = 0
    · rw [rn_zero h1 h0] at h
      simp at h
      obtain ⟨rfl, rfl⟩ := h
      exact ⟨⟨[], fun x hx => (List.not_mem_nil hx).elim, by rw [labs_nil_putB]⟩, by show had + 1 ≤ 255; omega, by omega, by omega⟩
    · by_cases h6 : bt B k < 64
      · by_cases ho : en < k + 1 + bt B k
        · rw [rn_over h1 h0 h6 ho] at h; cases h
        · by_cases hl : 255 < had + 1 + bt B k + 1
          · rw [rn_long h1 h0 h6 ho hl] at h; cases h
          · rw [rn_label h1 h0 h6 ho hl] at h
            unfold pre at h
            split at h
            · rename_i r hr
              obtain ⟨⟨l, hl1, hl2⟩, h2, h3, h4⟩ := rn_ok (k + 1 + bt B k) st en ov (had + 1 + bt B k) r.1 r.2 hE (by omega) hr
              simp at h
              obtain ⟨rfl, rfl⟩ := h
              have hz : (B.extract k (k + 1 + bt B k)).size = 1 + bt B k := by simp [ByteArray.size_extract]; omega
              refine ⟨⟨B.extract (k + 1) (k + 1 + bt B k) :: l, ?_, ?_⟩, ?_, by omega, by omega⟩
              · intro x hx
                rcases List.mem_cons.1 hx with rfl | hx
                · simp [ByteArray.size_extract]; omega
                · exact hl1 x hx
              · rw [putB_cons, ← label_chunk (by omega) h6, hl2]
              · rw [ByteArray.size_append, hz]; omega
            · cases h
      · by_cases h9 : bt B k < 192
        · rw [rn_mid h1 h6 h9] at h; cases h
        · by_cases ho : en < k + 2
          · rw [rn_short h1 h9 ho] at h; cases h
          · by_cases hp : (bt B k - 192) * 256 + bt B (k + 1) < st
            · rw [rn_ptr h1 h9 ho hp] at h
              unfold bhd at h
              split at h
              · rename_i r hr
                obtain ⟨⟨l, hl1, hl2⟩, h2, h3, h4⟩ := rn_ok ((bt B k - 192) * 256 + bt B (k + 1)) ((bt B k - 192) * 256 + bt B (k + 1)) B.size 10 had r.1 r.2 (Nat.le_refl _) hh hr
                simp at h
                obtain ⟨rfl, rfl⟩ := h
                exact ⟨⟨l, hl1, hl2⟩, h2, by omega, by omega⟩
              · cases h
            · rw [rn_far h1 h9 ho hp] at h; cases h
  · rw [rn_end h1] at h; cases h

theorem rn_name {B : ByteArray} {k st en ov : Nat} {s : ByteArray} {nx : Nat} (hE : en ≤ B.size) (h : rn B k st en ov 0 = .ok (s, nx)) : isN s = true ∧ 1 ≤ s.size ∧ s.size ≤ 255 ∧ k < nx ∧ nx ≤ en := by
  obtain ⟨⟨l, h1, rfl⟩, h2, h3, h4⟩ := rn_ok k st en ov 0 s nx hE (by omega) h
  refine ⟨?_, by rw [putB_size]; omega, by omega, h3, h4⟩
  rw [isN_putB h1]
  exact decide_eq_true (by omega)

/-- the number that n bytes from k on are, the highest first -/
def be (B : ByteArray) (k : Nat) : Nat → Nat
  | 0 => 0
  | n + 1 => be B k n * 256 + bt B (k + n)
theorem be_lt (B : ByteArray) (k : Nat) : ∀ n, be B k n < 256 ^ n
  | 0 => by simp [be]
  | n + 1 => by
    have := be_lt B k n
    have := bt_lt B (k + n)
    rw [be, Nat.pow_succ]; omega
theorem be_ext {B : ByteArray} {k e i : Nat} (he : e ≤ B.size) : ∀ n, k + i + n ≤ e → be (B.extract k e) i n = be B (k + i) n
  | 0, _ => rfl
  | n + 1, h => by
    rw [be, be, be_ext he n (by omega), bt_ext (by omega) he]
    simp only [Nat.add_assoc]
end Go.Proofs.YtjnmbgmdkkiidaaGreat.Nm

/-
  Plain facts on messages as bytes: questions, records, data with names that may be short; both ways of reading data are one. (The verifier's own text.)
-/
namespace Go.Proofs.YtjnmbgmdkkiidaaGreat
set_option linter.unusedVariables false
open Go.RowKit Go.Shelf Go.Proofs.YtjnmbgmdkkiidaaGreat.Nm

/-- a question from k on -/
def qr (B : ByteArray) (k : Nat) : Except Nat (Qn × Nat) := match rn B k k B.size 10 0 with
  | .error e => .error e
  | .ok r => if B.size < r.2 + 4 then .error 10 else .ok (⟨r.1, (be B r.2 2 : Nat), (be B (r.2 + 2) 2 : Nat)⟩, r.2 + 4)
/-- how many bytes stand ahead of how many names -/
def shp (t : Int) : Nat × Nat := if t = 2 ∨ t = 5 ∨ t = 12 then (0, 1) else if t = 6 then (0, 2) else if t = 15 then (2, 1) else (0, 0)
/-- so many names, and the rest -/
def nmR (B : ByteArray) (en : Nat) : Nat → Nat → ByteArray → Except Nat ByteArray
  | 0, k, acc => .ok (acc ++ B.extract k en)
  | m + 1, k, acc => match rn B k k en 7 0 with
    | .error e => .error e
    | .ok r => nmR B en m r.2 (acc ++ r.1)
/-- data from k to en -/
def dr (B : ByteArray) (k en : Nat) (t : Int) : Except Nat ByteArray :=
  if k = en then .ok .empty else if en < k + (shp t).1 then .error 7 else nmR B en (shp t).2 (k + (shp t).1) (B.extract k (k + (shp t).1))
/-- .. that are right -/
def sound (t c : Int) (r : Except Nat ByteArray) : Except Nat ByteArray := match r with
  | .error e => .error e
  | .ok d => if dataOK t c d = true then .ok d else .error 7
/-- a record from k on -/
def rr (B : ByteArray) (k : Nat) : Except Nat (Rn × Nat) := match qr B k with
  | .error e => .error e
  | .ok r => if B.size < r.2 + 6 then .error 10 else if B.size < r.2 + 6 + be B (r.2 + 4) 2 then .error 10 else
    match sound r.1.t r.1.c (dr B (r.2 + 6) (r.2 + 6 + be B (r.2 + 4) 2) r.1.t) with
    | .error e => .error e
    | .ok d => .ok (⟨r.1.n, r.1.t, r.1.c, (be B r.2 4 : Nat), d⟩, r.2 + 6 + be B (r.2 + 4) 2)
def qs (B : ByteArray) : Nat → Nat → List Qn → Except (Nat × Nat) (List Qn × Nat)
  | 0, k, L => .ok (L, k)
  | c + 1, k, L => match qr B k with
    | .error e => .error (e, k)
    | .ok r => qs B c r.2 (L ++ [r.1])
def rs (B : ByteArray) : Nat → Nat → List Rn → Except (Nat × Nat) (List Rn × Nat)
  | 0, k, L => .ok (L, k)
  | c + 1, k, L => match rr B k with
    | .error e => .error (e, k)
    | .ok r => rs B c r.2 (L ++ [r.1])
/-- the lists of a message -/
structure Ls where
  q : List Qn
  a : List Rn
  u : List Rn
  d : List Rn
def parts4 (B : ByteArray) : Except (Nat × Nat) Ls := match qs B (be B 4 2) 12 [] with
  | .error e => .error e
  | .ok q => match rs B (be B 6 2) q.2 [] with
    | .error e => .error e
    | .ok a => match rs B (be B 8 2) a.2 [] with
      | .error e => .error e
      | .ok u => match rs B (be B 10 2) u.2 [] with
        | .error e => .error e
        | .ok d => if d.2 < B.size then .error (11, d.2) else .ok ⟨q.1, a.1, u.1, d.1⟩

/-- the parts of data whose names may be short -/
def brf (t : Int) : List Nat := if t = 2 ∨ t = 5 ∨ t = 12 then [0] else if t = 15 then [2, 0] else if t = 6 then [0, 0, 20] else []
def pr (B : ByteArray) (en : Nat) : List Nat → Nat → ByteArray → Except Nat (ByteArray × Nat)
  | [], k, acc => .ok (acc, k)
  | p :: ps, k, acc => if 0 < p then (if en < k + p then .error 7 else pr B en ps (k + p) (acc ++ B.extract k (k + p)))
    else match rn B k k en 7 0 with
    | .error e => .error e
    | .ok r => pr B en ps r.2 (acc ++ r.1)
/-- data, the reference's way -/
def drR (B : ByteArray) (k en : Nat) (t : Int) : Except Nat ByteArray :=
  if k < en ∧ brf t ≠ [] then match pr B en (brf t) k .empty with
    | .error e => .error e
    | .ok r => if r.2 ≠ en then .error 7 else .ok r.1
  else .ok (B.extract k en)

theorem ex_app_l (a b : ByteArray) : (a ++ b).extract 0 a.size = a := by
  apply ByteArray.ext; apply Array.ext
  · simp
  · intro i h1 h2; simp
theorem ex_app_r (a b : ByteArray) : (a ++ b).extract a.size (a ++ b).size = b := by
  apply ByteArray.ext; apply Array.ext
  · simp
  · intro i h1 h2; simp
theorem parts_dom {s : ByteArray} (ks : List Kind) (x : ByteArray) (hs : isN s = true) : partsOf (.dom :: ks) (s ++ x) = (partsOf ks x).map ((.dom, s) :: ·) := by
  have h := dom_of_name (d := s ++ x) (k := s.size) (by simp) (by rw [ex_app_l]; exact hs)
  show (match domS (s ++ x) with | none => none | some n => _) = _
  rw [h]
  simp only [ex_app_l, ex_app_r]
theorem parts_num {s : ByteArray} {n : Nat} (ks : List Kind) (x : ByteArray) (hs : s.size = n) : partsOf (.num n :: ks) (s ++ x) = (partsOf ks x).map ((.num n, s) :: ·) := by
  subst hs
  show (match fixS s.size (s ++ x) with | none => none | some n => _) = _
  rw [fixS_yes (by simp)]
  simp only [ex_app_l, ex_app_r]
theorem parts_num_no {ks : List Kind} {x : ByteArray} {n m : Nat} (h : ∀ y : ByteArray, y.size ≠ m → partsOf ks y = none) (hx : x.size ≠ n + m) : partsOf (.num n :: ks) x = none := by
  show (match fixS n x with | none => none | some n => _) = _
  by_cases hn : x.size < n
  · rw [fixS_no hn]
  · rw [fixS_yes (by omega)]
    simp only
    rw [h _ (by simp [ByteArray.size_extract]; omega)]; rfl
theorem parts_end {x : ByteArray} (h : x.size ≠ 0) : partsOf [] x = none := by unfold partsOf; rw [if_neg h]
theorem parts_20 {x : ByteArray} (h : x.size ≠ 20) : partsOf [.num 4, .num 4, .num 4, .num 4, .num 4] x = none :=
  parts_num_no (m := 16) (fun _ => parts_num_no (m := 12) (fun _ => parts_num_no (m := 8) (fun _ => parts_num_no (m := 4) (fun _ => parts_num_no (m := 0) (fun _ => parts_end))))) h
theorem dataOK_no {t c : Int} {d : ByteArray} {ks : List Kind} (h41 : t ≠ 41) (h0 : d.size ≠ 0) (hk : kindsOf t = some ks) (hp : partsOf ks d = none) : dataOK t c d = false := by
  unfold dataOK
  rw [if_neg h41, if_neg (fun h => h0 h.1)]
  apply decide_eq_false
  unfold errD partsD
  rw [hk]
  simp only
  split <;> simp_all
theorem sound_err (t c : Int) (e : Nat) : sound t c (.error e) = .error e := rfl
theorem sound_no {t c : Int} {d : ByteArray} (h : dataOK t c d = false) : sound t c (.ok d) = .error 7 := by unfold sound; simp only; rw [if_neg (by rw [h]; decide)]
theorem ext_empty (B : ByteArray) (k : Nat) : B.extract k k = .empty := by
  apply ByteArray.ext; simp
theorem app_empty (a : ByteArray) : a ++ ByteArray.empty = a := by apply ByteArray.ext; simp
theorem empty_app (a : ByteArray) : ByteArray.empty ++ a = a := by apply ByteArray.ext; simp

/-- both ways are one, where a name and nothing else is left -/
theorem tail_name (B : ByteArray) (k en : Nat) (t c : Int) (acc : ByteArray) (ks : List Kind) (hE : en ≤ B.size) (h41 : t ≠ 41) (hk : kindsOf t = some ks)
    (hp : ∀ s x : ByteArray, isN s = true → x.size ≠ 0 → partsOf ks ((acc ++ s) ++ x) = none) :
    sound t c (match rn B k k en 7 0 with | .error e => .error e | .ok r => .ok ((acc ++ r.1) ++ B.extract r.2 en)) = sound t c (match (match rn B k k en 7 0 with | .error e => .error e | .ok r => .ok (acc ++ r.1, r.2) : Except Nat (ByteArray × Nat)) with | .error e => .error e | .ok r => if r.2 ≠ en then .error 7 else .ok r.1) := by
  cases h : rn B k k en 7 0 with
  | error e => rfl
  | ok r =>
    obtain ⟨s, nx⟩ := r
    obtain ⟨h1, h2, h3, h4, h5⟩ := rn_name hE h
    simp only
    by_cases he : nx = en
    · subst he
      rw [if_neg (by simp), ext_empty, app_empty]
    · rw [if_pos he, sound_err]
      apply sound_no
      refine dataOK_no h41 ?_ hk (hp s _ h1 ?_)
      · rw [ByteArray.size_append, ByteArray.size_append]; omega
      · simp [ByteArray.size_extract]; omega

theorem both_ways (B : ByteArray) (k en : Nat) (t c : Int) (hke : k ≤ en) (hE : en ≤ B.size) : sound t c (drR B k en t) = sound t c (dr B k en t) := by
  unfold drR dr
  by_cases h0 : k = en
  · subst h0
    rw [if_neg (fun h => by omega), if_pos rfl, ext_empty]
  rw [if_neg h0]
  by_cases hA : t = 2 ∨ t = 5 ∨ t = 12
  · have hb : brf t = [0] := by unfold brf; rw [if_pos hA]
    have hs : shp t = (0, 1) := by unfold shp; rw [if_pos hA]
    have hk : kindsOf t = some [.dom] := by unfold kindsOf; rw [if_neg (by omega), if_pos (by omega)]
    rw [hb, hs, if_pos ⟨by omega, by simp⟩, if_neg (by simp; omega)]
    have := tail_name B k en t c .empty [.dom] hE (by omega) hk (fun s x h1 h2 => by rw [empty_app, parts_dom _ _ h1, parts_end h2]; rfl)
    simp only [pr, nmR, Nat.add_zero, ext_empty]
    rw [this]
    rfl
  by_cases hB : t = 15
  · have hb : brf t = [2, 0] := by unfold brf; rw [if_neg hA, if_pos hB]
    have hs : shp t = (2, 1) := by unfold shp; rw [if_neg hA, if_neg (by omega), if_pos hB]
    have hk : kindsOf t = some [.num 2, .dom] := by subst hB; rfl
    rw [hb, hs, if_pos ⟨by omega, by simp⟩]
    simp only [pr, nmR]
    rw [if_pos (by omega)]
    by_cases h2 : en < k + 2
    · rw [if_pos h2, if_pos h2]
    simp only [if_neg h2, if_neg (Nat.lt_irrefl 0), empty_app]
    have := tail_name B (k + 2) en t c (B.extract k (k + 2)) [.num 2, .dom] hE (by omega) hk (fun s x h1 h2 => by rw [ByteArray.append_assoc, parts_num _ _ (by simp [ByteArray.size_extract]; omega), parts_dom _ _ h1, parts_end h2]; rfl)
    rw [this]
  by_cases hC : t = 6
  · have hb : brf t = [0, 0, 20] := by unfold brf; rw [if_neg hA, if_neg hB, if_pos hC]
    have hs : shp t = (0, 2) := by unfold shp; rw [if_neg hA, if_pos hC]
    have hk : kindsOf t = some [.dom, .dom, .num 4, .num 4, .num 4, .num 4, .num 4] := by subst hC; rfl
    rw [hb, hs, if_pos ⟨by omega, by simp⟩, if_neg (by simp; omega)]
    simp only [pr, nmR, Nat.add_zero, ext_empty, empty_app]
    simp only [if_neg (Nat.lt_irrefl 0), if_pos (show 0 < 20 by omega)]
    cases h : rn B k k en 7 0 with
    | error e => rfl
    | ok r =>
      obtain ⟨s, k1⟩ := r
      simp only
      obtain ⟨h1, h2, h3, h4, h5⟩ := rn_name hE h
      cases h' : rn B k1 k1 en 7 0 with
      | error e => rfl
      | ok r' =>
        obtain ⟨s2, k2⟩ := r'
        simp only
        obtain ⟨g1, g2, g3, g4, g5⟩ := rn_name hE h'
        have hno : ∀ x : ByteArray, x.size ≠ 20 → dataOK t c (s ++ s2 ++ x) = false := fun x hx => by
          refine dataOK_no (by omega) (by rw [ByteArray.size_append, ByteArray.size_append]; omega) hk ?_
          rw [ByteArray.append_assoc, parts_dom _ _ h1, parts_dom _ _ g1, parts_20 hx]; rfl
        by_cases he : en < k2 + 20
        · rw [if_pos he, sound_no (hno _ (by simp [ByteArray.size_extract]; omega))]; rfl
        · rw [if_neg he]
          simp only
          by_cases he2 : k2 + 20 = en
          · rw [if_neg (by omega), he2]
          · rw [if_pos he2, sound_no (hno _ (by simp [ByteArray.size_extract]; omega))]; rfl
  · have hb : brf t = [] := by unfold brf; rw [if_neg hA, if_neg hB, if_neg hC]
    have hs : shp t = (0, 0) := by unfold shp; rw [if_neg hA, if_neg hC, if_neg hB]
    rw [hb, hs, if_neg (by simp), if_neg (by simp; omega)]
    simp only [nmR, Nat.add_zero, ext_empty, empty_app]

/-- what is wrong with a name -/
theorem rn_err {B : ByteArray} (k st en ov had x : Nat) (h : rn B k st en ov had = .error x) : x = ov ∨ x = 4 ∨ x = 9 ∨ x = 10 := by
  by_cases h1 : k < en
  · by_cases h0 : bt B k = 0
    · rw [rn_zero h1 h0] at h; cases h
    · by_cases h6 : bt B k < 64
      · by_cases ho : en < k + 1 + bt B k
        · rw [rn_over h1 h0 h6 ho] at h; cases h; exact .inl rfl
        · by_cases hl : 255 < had + 1 + bt B k + 1
          · rw [rn_long h1 h0 h6 ho hl] at h; cases h; exact .inr (.inl rfl)
          · rw [rn_label h1 h0 h6 ho hl] at h
            unfold pre at h
            split at h
            · cases h
            · rename_i e he
              cases h
              exact rn_err _ _ _ _ _ _ he
      · by_cases h9 : bt B k < 192
        · rw [rn_mid h1 h6 h9] at h; cases h; exact .inr (.inr (.inl rfl))
        · by_cases ho : en < k + 2
          · rw [rn_short h1 h9 ho] at h; cases h; exact .inl rfl
          · by_cases hp : (bt B k - 192) * 256 + bt B (k + 1) < st
            · rw [rn_ptr h1 h9 ho hp] at h
              unfold bhd at h
              split at h
              · cases h
              · rename_i e he
                cases h
                rcases rn_err _ _ _ _ _ _ he with e | e | e | e
                · exact .inr (.inr (.inr e))
                · exact .inr (.inl e)
                · exact .inr (.inr (.inl e))
                · exact .inr (.inr (.inr e))
            · rw [rn_far h1 h9 ho hp] at h; cases h; exact .inr (.inr (.inl rfl))
  · rw [rn_end h1] at h; cases h; exact .inl rfl
theorem be2_lt (B : ByteArray) (k : Nat) : be B k 2 < 65536 := be_lt B k 2
theorem be4_lt (B : ByteArray) (k : Nat) : be B k 4 < 4294967296 := be_lt B k 4
theorem qr_ok {B : ByteArray} {k : Nat} {q : Qn} {k1 : Nat} (h : qr B k = .ok (q, k1)) : isN q.n = true ∧ q.n.size ≤ 255 ∧ k + 5 ≤ k1 ∧ k1 ≤ B.size ∧ (∃ m : Nat, q.t = m ∧ m < 65536) ∧ (∃ m : Nat, q.c = m ∧ m < 65536) := by
  unfold qr at h
  split at h
  · cases h
  · rename_i r hr
    obtain ⟨s, k2⟩ := r
    obtain ⟨h1, h2, h3, h4, h5⟩ := rn_name (Nat.le_refl _) hr
    simp only at h
    split at h
    · cases h
    · simp at h
      obtain ⟨rfl, rfl⟩ := h
      exact ⟨h1, h3, by omega, by omega, ⟨_, rfl, be2_lt _ _⟩, ⟨_, rfl, be2_lt _ _⟩⟩
end Go.Proofs.YtjnmbgmdkkiidaaGreat
