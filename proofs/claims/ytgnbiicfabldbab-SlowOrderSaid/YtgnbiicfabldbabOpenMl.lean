/-
  A list of messages that came in, opened with the sizes of their texts and lists. Conditions: it reads as data; the weights of what was read are bounded.
-/
import Derived.Test.YtgnbiicfabldbabOpenMs
import Derived.Test.YtgnbiicfabldbabSa
namespace Go.Proofs.Ytgnbiicfabldbab
open Go.Joins Go.ChangeShapes Go.WideShapes Go.ChangeAt Go.WideMaps Go.WideElems Go.RowKit Go.Deep

theorem bytesMsg1 : 1 ≤ Try.prog.bytesOf 25 := by decide +kernel
theorem open_msgsx {H : Type} {enc : TypeId × Value → H} {W : World} {fuel : Nat} {a0 : Option Addr} {len cap : Nat} {x : DataW H × List MemPlace} (hf : DataW.trod enc Try.prog W 0 (fun _ => true) true fuel 22 [.slice a0 len cap] = some x) :
    ∃ Xs : List ME, Xs.length = len ∧ MI W W.heap.size a0 Xs ∧ len ≤ cap ∧ (WB 22 x.1 → len ≤ 140737488355328 ∧ ∀ X ∈ Xs, X.m.props.length ≤ 4398046511104 ∧ X.m.payload.size ≤ 140737488355328) :=
  open_listx (by decide) gM_len ⟨Msg.zero, none, 0⟩ Try.underlying22 cellsMsg bytesMsg1 (fun _ ht => by
    obtain ⟨m, A, c, rfl, h1, _, h3⟩ := open_msgcx ht
    exact ⟨⟨m, A, c⟩, rfl, h1, h3⟩) hf
end Go.Proofs.Ytgnbiicfabldbab
