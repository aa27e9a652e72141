/-
  What Num of the specification answers. Conditions: the position fits an int; so many bytes fit a slice.
-/
import Derived.Test.YtijdfadmmloclabRead
namespace Go.Proofs.Ytijdfadmmloclab
open Go.RowKit

theorem cell_at {w : World} {B : Nat} {A : Option Addr} {l : List UInt8} (h : CL bv w B A l) {k i : Nat} {x : UInt8} (hx : (l.drop k)[i]? = some x) : ∃ b o, A = some ⟨b, o, none⟩ ∧ b < B ∧ w.cell? ⟨b, o + (k + i), none⟩ = some (.int .u8 x.toNat) := by
  rw [List.getElem?_drop] at hx
  have hl := (List.getElem?_eq_some_iff.1 hx).1
  obtain ⟨b, o, e, hb, hc⟩ := h (by omega)
  exact ⟨b, o, e, hb, hc _ x hx⟩

end Go.Proofs.Ytijdfadmmloclab
