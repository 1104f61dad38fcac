import Derived.Test.YtklpgjgnghdcjaaGreatSgc
import Derived.Test.YtklpgjgnghdcjaaGreatSf1G
/-
  seal.Verify at what seal.Sign has made. (The verifier's own text.)
-/
namespace Go.Proofs.YtklpgjgnghdcjaaGreat
set_option linter.unusedVariables false
set_option linter.unusedSimpArgs false
open Go.RowKit Go.Shelf Go.Sort Go.Proofs.YtklpgjgnghdcjaaGreat.Nm

/-- the signature's data -/
def sgD (f : Int) (m e s t0 l0 g0 u b : Nat) (F T : ByteArray) : ByteArray := stB t0 253 l0 g0 u b (tagN (pubB f m e s)) F ++ nB (fgN (digB T) m 10 ^ s % m) 4
theorem verify_round (L : List Rn) (p : Option Addr) (cap : Nat) (so q xo F T n : ByteArray) (sl now f : Int) (m e s t0 l0 g0 u b : Nat) (w : World) (hK : KY m e s) (hf : f = 256 ∨ f = 257)
    (hL : L.length ≤ 1048576) (hat : RsAt w p L) (hz : ∀ r ∈ L, r.o.size ≤ maxLen ∧ r.d.size ≤ 9223372036854775807) (h4 : setOK L = true) (hxo : (hdR L).o = xo) (hxt : (hdR L).t = (t0 : Int)) (hxN : isN xo = true)
    (hn : isN n = true) (hF : foldB n = F) (hw : withinB xo F = true) (hq : eqB q F = true) (hqz : q.size ≤ maxLen) (hso : isN so = true) (hse : eqB so xo = true) (hsl : 0 ≤ sl) (hsl2 : sl ≤ 2147483647)
    (ht0 : 1 ≤ t0) (ht1 : t0 < 65536) (hg1 : g0 < 4294967296) (hu : u < 4294967296) (hb : b < 4294967296) (hlb : (l0 : Int) ≤ lbI xo) (hfd : ∀ d ∈ fdL L, d.length ≤ 65535)
    (hT : (⟨(txL (stB t0 253 l0 g0 u b (tagN (pubB f m e s)) F) (ahB l0 g0 xo t0) (srt (fdL L))).toArray⟩ : ByteArray) = T) (hTz : T.size ≤ 2097152) :
    Calls Tryz.prog 11 #[.slice p L.length cap, .agg #[.string so, .int .i64 46, .int .i64 1, .int .i64 sl, .string (sgD f m e s t0 l0 g0 u b F T)], .string q, .string (pubB f m e s), .int .i64 now] w fun r w' => r = .returned (.int .i64 (if now < (b : Int) ∨ (u : Int) < now then 25 else 0)) ∧ Below w.heap.size w w' := by
  have hp := setOK_pos h4
  have hx0 := hdR_eq hp
  have hl1 : l0 < 256 := by have := (lb_rng hxN).2; omega
  obtain ⟨hFN, -⟩ := isN_fold hn
  rw [hF] at hFN
  have hFz : F.size ≤ 255 := ((isN_iff F).1 hFN).1
  have hxz : xo.size ≤ 255 := ((isN_iff xo).1 hxN).1
  have hsz : so.size ≤ 255 := ((isN_iff so).1 hso).1
  have htz := tagN_lt (pubB f m e s)
  obtain ⟨kB, kf, km, ke, ks⟩ := key_round hK hf
  obtain ⟨tg, htg⟩ : ∃ tg, tagN (pubB f m e s) = tg := ⟨_, rfl⟩
  obtain ⟨PV, hPV⟩ : ∃ PV, fgN (digB T) m 10 ^ s % m = PV := ⟨_, rfl⟩
  have hNl : fgN (digB T) m 10 < m := fgN_lt _ _ (by obtain ⟨a, b, -, -, -, -, h1, -⟩ := hK; omega) 10
  have hrs := hK.rsa _ hNl
  rw [hPV] at hrs
  have hmm : 65537 ≤ m ∧ m ≤ 2147483647 ∧ e ≤ 65535 := by obtain ⟨a, b, -, -, -, -, h1, h2, -, h3, -⟩ := hK; exact ⟨h1, h2, h3⟩
  have hPl : PV < m := by rw [← hPV]; exact Nat.mod_lt _ (by omega)
  have hvP : vN (nB PV 4) 4 = PV := vN_nB (by omega)
  have hD : sgD f m e s t0 l0 g0 u b F T = stB t0 253 l0 g0 u b tg F ++ nB PV 4 := by unfold sgD; rw [htg, hPV]
  rw [hD]
  rw [htg] at hT htz
  obtain ⟨D, hDe⟩ : ∃ D, stB t0 253 l0 g0 u b tg F ++ nB PV 4 = D := ⟨_, rfl⟩
  have hX4 := nB_size PV 4
  have er := err_stamp t0 253 l0 g0 u b tg F (nB PV 4) ht0 ht1 hFN (by omega) (by omega)
  have nm := names_stamp t0 253 l0 g0 u b tg F (nB PV 4) ht0 ht1 hFN (by omega) (by omega)
  obtain ⟨v0, v1, v2, v3, v4, v5, v6, vX⟩ := nums_stamp t0 253 l0 g0 u b tg F (nB PV 4) ht1 (by omega) hl1 hg1 hu hb htz
  have hDz : (stB t0 253 l0 g0 u b tg F ++ nB PV 4).size ≤ 65535 := by unfold stB; simp only [ByteArray.size_append, nB_size]; omega
  rw [hDe] at er nm v0 v1 v2 v3 v4 v5 v6 vX hDz ⊢
  have hsN : sgN D = F := by unfold sgN; rw [nm]; rfl
  have hst : stmV D = .agg #[.int .i64 (t0 : Int), .int .i64 ((253 : Nat) : Int), .int .i64 (l0 : Int), .int .i64 (g0 : Int), .int .i64 (u : Int), .int .i64 (b : Int), .int .i64 (tg : Int), .string F] := by
    unfold stmV
    rw [v0, v1, v2, v3, v4, v5, v6, hsN, ← hF, fold_fold hn]
  have hsx : sgX D = nB PV 4 := by unfold sgX; rw [hsN]; exact vX
  have hzon : zonB so D 46 1 sl = true := by
    unfold zonB
    rw [hso, er]
    simp [hsl, hsl2]
  have HS : Hid (∀ W : World, RsAt W p L → Calls Tryz.prog 22 #[.slice p L.length cap] W fun r w' => r = .returned (.bool true) ∧ Below W.heap.size W w') := fun W h => by
    have := isSet_any L p cap W hL h hz
    rw [h4] at this; exact this
  have HR : Hid (∀ W : World, Calls Tryz.prog 46 #[.agg #[.string so, .int .i64 46, .int .i64 1, .int .i64 sl, .string D]] W fun r w' => r = .returned (.bool true) ∧ Below W.heap.size W w') := fun W => by
    have := isRecord_any so D 46 1 sl W (by unfold maxLen; omega) (by omega)
    rw [hzon] at this; exact this
  have HO : Hid (∀ W : World, Calls Tryz.prog 47 #[.string D] W fun r w' => r = .returned (.tuple #[.agg #[.int .i64 (t0 : Int), .int .i64 253, .int .i64 (l0 : Int), .int .i64 (g0 : Int), .int .i64 (u : Int), .int .i64 (b : Int), .int .i64 (tg : Int), .string F], .string (nB PV 4)]) ∧ Below W.heap.size W w') := fun W => by
    have := stampOf_any D W er
    rw [hst, hsx] at this; exact this
  have HKO : Hid (∀ W : World, Calls Tryz.prog 48 #[.string (pubB f m e s)] W fun r w' => r = .returned (.tuple #[.agg #[.int .i64 f, .int .i64 (m : Int), .int .i64 (e : Int), .int .i64 1], .bool true]) ∧ Below W.heap.size W w') := fun W => by
    have := keyOf_full (pubB f m e s) W (pub_small _ _ _ _)
    rw [kB, kf, km, ke, ks] at this; exact this
  have HE : Hid (∀ W : World, Calls Tryz.prog 49 #[.string so, .string xo] W fun r w' => r = .returned (.bool true) ∧ Below W.heap.size W w') := fun W => by
    have := equal_any so xo W (by unfold maxLen; omega) (by unfold maxLen; omega)
    rw [hse] at this; exact this
  have HW : Hid (∀ W : World, Calls Tryz.prog 24 #[.string xo, .string F] W fun r w' => r = .returned (.bool true) ∧ Below W.heap.size W w') := fun W => by
    have := within_any xo F W (by unfold maxLen; omega) (by unfold maxLen; omega)
    rw [hw] at this; exact this
  have HQ : Hid (∀ W : World, Calls Tryz.prog 49 #[.string q, .string F] W fun r w' => r = .returned (.bool true) ∧ Below W.heap.size W w') := fun W => by
    have := equal_any q F W hqz (by unfold maxLen; omega)
    rw [hq] at this; exact this
  have HT : Hid (∀ W : World, Calls Tryz.prog 26 #[.string (pubB f m e s)] W fun r w' => r = .returned (.int .i64 (tg : Int)) ∧ w' = W) := fun W => by
    have := tag_any (pubB f m e s) W (pub_small _ _ _ _)
    rw [htg] at this; exact this
  have HL : Hid (∀ W : World, Calls Tryz.prog 25 #[.string xo] W fun r w' => r = .returned (.int .i64 (lbI xo)) ∧ Below W.heap.size W w') := fun W => labelsOf_any xo W (by unfold maxLen; omega)
  have HX : Hid (∀ W : World, RsAt W p L → Calls Tryz.prog 30 #[.agg #[.int .i64 (t0 : Int), .int .i64 253, .int .i64 (l0 : Int), .int .i64 (g0 : Int), .int .i64 (u : Int), .int .i64 (b : Int), .int .i64 (tg : Int), .string F], .slice p L.length cap] W fun r w' => r = .returned (.string T) ∧ Below W.heap.size W w') := fun W h => by
    have h9 := text_any t0 253 l0 g0 u b tg F L p cap W hp hL h hz hfd (by omega) ht1 (by omega) hl1 hg1 hu hb htz t0 (by rw [hx0, hxt]) ht1 (by rw [hx0, hxo]; exact star_small _) (by rw [hx0, hxo]; exact Nat.le_trans (tailB_size _ _) (by unfold maxLen; omega)) (by rw [hx0, hxo]; exact ow_small _ _)
    rw [hx0, hxo, hT] at h9
    exact h9
  have HI : Hid (∀ W : World, Calls Tryz.prog 50 #[.string T, .string (nB PV 4), .agg #[.int .i64 f, .int .i64 (m : Int), .int .i64 (e : Int), .int .i64 1]] W fun r w' => r = .returned (.bool true) ∧ Below W.heap.size W w') := fun W => by
    have := fits_lt T (nB PV 4) f 1 m e W hTz hX4 (by omega) (by omega) (by omega) (by rw [hvP]; exact hPl)
    rw [hvP, hrs] at this
    simpa using this
  by_cases h1 : now < (b : Int)
  · rw [if_pos (.inl h1)]
    exact verify_early L p cap so D q (pubB f m e s) xo (nB PV 4) F T 1 sl now (lbI xo) t0 l0 g0 u b tg f m e 1 true w hp L.length hp hat (by rw [hx0, hxo]) (by rw [hx0, hxt]) HS HR HO HKO HE HW HQ HT HL (by omega) HX HI h1
  by_cases h2 : (u : Int) < now
  · rw [if_pos (.inr h2)]
    exact verify_late L p cap so D q (pubB f m e s) xo (nB PV 4) F T 1 sl now (lbI xo) t0 l0 g0 u b tg f m e 1 true w hp L.length hp hat (by rw [hx0, hxo]) (by rw [hx0, hxt]) HS HR HO HKO HE HW HQ HT HL (by omega) HX HI h1 h2
  · rw [if_neg (fun h => h.elim h1 h2)]
    exact verify_ok L p cap so D q (pubB f m e s) xo (nB PV 4) F T 1 sl now (lbI xo) t0 l0 g0 u b tg f m e 1 w hp L.length hp hat (by rw [hx0, hxo]) (by rw [hx0, hxt]) HS HR HO HKO HE HW HQ HT HL (by omega) HX HI h1 h2
end Go.Proofs.YtklpgjgnghdcjaaGreat
