/-
  A tunnel that came in, opened for the walks. Conditions: it reads as data.
-/
import Derived.Test.YtaaginkafadhdabGreatDoorOpenB
import Derived.Test.YtaaginkafadhdabGreatDoorTunA
import Derived.Lib.SmallJoins
namespace Go.Proofs.YtaaginkafadhdabGreatDoor
open Go.ChangeShapes Go.WideShapes Go.ChangeAt Go.WideMaps Go.WideElems Go.RowKit

set_option maxRecDepth 100000 in
theorem open_tun {H : Type} {enc : TypeId × Value → H} {W : World} {r : Reach} {b0 : Nat} {v : Value} {d : DataW H} {p : List MemPlace} (hv : Value.okWide Tryz.prog W r b0 23 v)
    (h : DataW.Trod enc Tryz.prog W 0 (fun _ => true) true 23 v d p) : ∃ (c s g : Int) (x : Bool), v = tV c s g x := by
  obtain ⟨v0, v1, v2, v3, y0, y1, y2, y3, n, rfl, _, _, h0, h1, h2, h3⟩ := Go.Joins.open_agg4 Tryz.underlying23 (by kernel_rfl) (by kernel_rfl) hv h
  obtain ⟨c, e0, _, _⟩ := DataW.trod_int Tryz.underlying3 h0
  obtain ⟨s, e1, _, _⟩ := DataW.trod_int Tryz.underlying3 h1
  obtain ⟨g, e2, _, _⟩ := DataW.trod_int Tryz.underlying3 h2
  obtain ⟨x, e3, _⟩ := DataW.trod_bool Tryz.underlying4 h3
  simp only [List.cons.injEq, and_true] at e0 e1 e2 e3
  subst e0 e1 e2 e3
  exact ⟨c, s, g, x, rfl⟩

end Go.Proofs.YtaaginkafadhdabGreatDoor
