import Derived.Test.YtfonnepnaeehhaaMath2
namespace Go.Proofs.Ytfonnepnaeehhaa.Nm
set_option linter.unusedVariables false

/-- a label with its length ahead -/
def chunk (x : ByteArray) : ByteArray := ⟨#[UInt8.ofNat x.size]⟩ ++ x
def chunks (l : List ByteArray) : ByteArray := l.foldl (fun s x => s ++ chunk x) ByteArray.empty
def putB (l : List ByteArray) : ByteArray := chunks l ++ ⟨#[0]⟩
theorem chunks_snoc (l : List ByteArray) (x : ByteArray) : chunks (l ++ [x]) = chunks l ++ chunk x := by simp [chunks]
theorem chunk_size (x : ByteArray) : (chunk x).size = 1 + x.size := by simp [chunk, ByteArray.size_append]; rfl
theorem foldl_chunk (l : List ByteArray) : ∀ a : ByteArray, l.foldl (fun s x => s ++ chunk x) a = a ++ chunks l := by
  induction l with
  | nil => intro a; simp [chunks]
  | cons x l ih =>
    intro a
    have h1 := ih (a ++ chunk x)
    have h2 := ih (chunk x)
    unfold chunks
    simp only [List.foldl_cons]
    rw [h1, ByteArray.empty_append, h2, ByteArray.append_assoc]
theorem chunks_cons (x : ByteArray) (l : List ByteArray) : chunks (x :: l) = chunk x ++ chunks l := by
  have := foldl_chunk l (chunk x)
  unfold chunks at *
  simp only [List.foldl_cons, ByteArray.empty_append]
  exact this
theorem chunks_append (l m : List ByteArray) : chunks (l ++ m) = chunks l ++ chunks m := by
  unfold chunks; rw [List.foldl_append]; exact foldl_chunk m _
theorem chunks_size_take (l : List ByteArray) (k : Nat) : (chunks (l.take k)).size ≤ (chunks l).size := by
  conv => rhs; rw [← List.take_append_drop k l, chunks_append, ByteArray.size_append]
  omega
theorem chunks_len (l : List ByteArray) : l.length ≤ (chunks l).size := by
  induction l with
  | nil => exact Nat.zero_le _
  | cons x l ih => rw [chunks_cons, ByteArray.size_append, chunk_size, List.length_cons]; omega
theorem putB_size (l : List ByteArray) : (putB l).size = (chunks l).size + 1 := by simp [putB, ByteArray.size_append]; rfl

end Go.Proofs.Ytfonnepnaeehhaa.Nm
