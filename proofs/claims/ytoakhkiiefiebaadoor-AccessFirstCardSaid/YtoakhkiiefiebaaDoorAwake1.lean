/-
  The examples of the chapter on topics hold: awake of the topic statements answers true. Condition: MaxLen holds a number.
-/
import Derived.Test.YtoakhkiiefiebaaDoorJoin
namespace Go.Proofs.YtoakhkiiefiebaaDoor.S1
open Go.RowKit

/-- what every call of a statement keeps: what was there at its beginning, and the library's variable -/
def Qk (W w : World) : Prop := Below W.heap.size W w ∧ Okw w
theorem Qk.ok {W w : World} (h : Qk W w) : Okw w := h.2
theorem Qk.refl {w : World} (h : Okw w) : Qk w w := ⟨Below.refl _ _, h⟩
theorem Qk.step {W w w' : World} (h : Qk W w) (hb : Below w.heap.size w w') : Qk W w' := ⟨Below.step h.1 hb, h.2.step hb⟩
theorem Qk.alloc {W w : World} (h : Qk W w) (o : Obj) : Qk W (w.alloc o) := h.step ((Below.refl _ _).alloc (Nat.le_refl _) o)
theorem Qk.drewN {W w : World} (h : Qk W w) (n : Nat) : Qk W (w.drewN n) := h.step (below_draw w n)
theorem Qk.drew {W w : World} (h : Qk W w) : Qk W w.drew := h.step ⟨rfl, rfl, rfl, Nat.le_refl _, fun _ _ => rfl⟩

theorem toB {P : Program} {f : FuncId} {args : Array Value} {w W : World} {a b : Bool} (c : Calls P f args w fun e w' => e = .returned (.bool a) ∧ Below w.heap.size w w') (h : a = b) (hq : Qk W w) :
    Calls P f args w fun e w' => e = .returned (.bool b) ∧ Qk W w' := c.mono fun _ _ ⟨he, hb⟩ => ⟨by rw [he, h], hq.step hb⟩

end Go.Proofs.YtoakhkiiefiebaaDoor.S1
