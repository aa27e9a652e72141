/-
A message that came in by value, and bytes that came in, opened for the walks. Conditions: it reads as data.
-/
import Derived.Test.YtdkegoaflabjoaaGreatDoorOpenQ
import Derived.Lib.SmallJoins
set_option maxRecDepth 100000
namespace Go.Proofs.YtdkegoaflabjoaaGreatDoor
open Go.Joins Go.ChangeShapes Go.WideShapes Go.ChangeAt Go.WideMaps Go.WideElems Go.RowKit Go.Deep

theorem cellsMsg : Tryz.prog.cellsOf 31 = 9 := by kernel_rfl
theorem cellsI64 : Tryz.prog.cellsOf 3 = 1 := by kernel_rfl
theorem cellsBool : Tryz.prog.cellsOf 4 = 1 := by kernel_rfl
theorem cellsProps : Tryz.prog.cellsOf 29 = 1 := by kernel_rfl
end Go.Proofs.YtdkegoaflabjoaaGreatDoor
