/-
  What PutTexts of pack and the writing functions of the specification answer. Conditions: lists and texts are short enough.
-/
import Derived.Test.YtijdfadmmloclabPut
namespace Go.Proofs.Ytijdfadmmloclab
open Go.RowKit

def encT (s : ByteArray) : List UInt8 := enc s.size ++ dl s
def encTs (l : List ByteArray) : List UInt8 := (l.map encT).flatten
def encL (l : List ByteArray) : List UInt8 := enc l.length ++ encTs l
theorem encTs_succ {l : List ByteArray} {k : Nat} {x : ByteArray} (h : l[k]? = some x) : encTs (l.take (k + 1)) = encTs (l.take k) ++ encT x := by
  unfold encTs
  rw [List.take_add_one, h]
  simp
theorem encT_len (s : ByteArray) : (encT s).length ≤ 10 + s.size := by
  unfold encT
  rw [List.length_append, ← size_dl]
  have := (enc_len s.size).2
  omega
theorem encTs_len (l : List ByteArray) (M : Nat) (h : ∀ x ∈ l, x.size ≤ M) : (encTs l).length ≤ l.length * (10 + M) := by
  induction l with
  | nil => simp [encTs]
  | cons x r ih =>
    have e : encTs (x :: r) = encT x ++ encTs r := by simp [encTs]
    have h1 := encT_len x
    have h2 := h x (by simp)
    have h3 := ih (fun y hy => h y (by simp [hy]))
    rw [e, List.length_append, List.length_cons, Nat.succ_mul]
    omega

/-- a list of texts in memory -/
abbrev SL (w : World) (B : Nat) (A : Option Addr) (xs : List ByteArray) : Prop := CL Value.string w B A xs

theorem byte_spec (k : Nat) : Value.int .u8 ((k : Int) % 128 + 128) = bv (UInt8.ofNat (k % 128 + 128)) := by
  unfold bv
  rw [toNat_ofNat8 (by omega)]
  congr 1

/-! ### The specification's -/
/-- the bytes that came in, in the world with the empty slice -/
theorem copied {w : World} {B' : Nat} {A : Option Addr} {xs : List UInt8} (hsl : CL bv w B' A xs) (hB' : B' ≤ w.heap.size) (o : Obj) : CL bv (w.alloc o) B' A xs := hsl.below ((Below.refl B' w).alloc hB' _)

end Go.Proofs.Ytijdfadmmloclab
