/-
  What Same of packet and of the specification answer: whether two packets are one. Conditions: the packets read as data; lengths fit an int.
-/
import Derived.Test.YtomlideijhejfaaDoorPlainP
import Derived.Test.YtomlideijhejfaaDoorEqN
import Derived.Test.YtomlideijhejfaaDoorSame
import Derived.Deep.RegionHeld3
namespace Go.Proofs.YtomlideijhejfaaDoor
open Go.RowKit

set_option maxRecDepth 20000 in
set_option maxHeartbeats 4000000 in
theorem eqPl (a0 b0 : Int) (a1 b1 : Int) (a2 b2 : Bool) (a3 b3 : ByteArray) (a4 b4 : ByteArray) (a5 b5 : Bool) (a6 b6 : Int) (a7 b7 : Int) (a8 b8 : Int) (a9 b9 : Bool) (a10 b10 : Int) (a11 b11 : Bool) (a12 b12 : Int) (w : World) : Sem.run Tryd.prog (binOp .eql 134 (.agg #[.int .i64 a0, .int .i64 a1, .bool a2, .string a3, .string a4, .bool a5, .int .i64 a6, .int .i64 a7, .int .i64 a8, .bool a9, .int .i64 a10, .bool a11, .int .i64 a12]) (.agg #[.int .i64 b0, .int .i64 b1, .bool b2, .string b3, .string b4, .bool b5, .int .i64 b6, .int .i64 b7, .int .i64 b8, .bool b9, .int .i64 b10, .bool b11, .int .i64 b12])) w = .ok (.bool (decide (a0 = b0 ∧ a1 = b1 ∧ a2 = b2 ∧ a3 = b3 ∧ a4 = b4 ∧ a5 = b5 ∧ a6 = b6 ∧ a7 = b7 ∧ a8 = b8 ∧ a9 = b9 ∧ a10 = b10 ∧ a11 = b11 ∧ a12 = b12))) w := by
  have u3 := Tryd.underlying9
  have aa3 := Tryd.isAgg9
  have z3 := Tryd.sizeOf9
  have u4 := Tryd.underlying3
  have aa4 := Tryd.isAgg3
  have z4 := Tryd.sizeOf3
  have u5 := Tryd.underlying4
  have aa5 := Tryd.isAgg4
  have z5 := Tryd.sizeOf4
  have hS : Tryd.prog.underlying 134 = some (.struct (Tryd.prog.fieldsOf 134)) := by kernel_rfl
  have hp : Tryd.prog.stoodInHeld 134 = false := by kernel_rfl
  have hs3 := str_dec a3 b3
  have hs4 := str_dec a4 b4
  rw [run_eql_struct, show (10000 : Nat) = 9999 + 1 from rfl, run_equalIn_agg w 9999 134 _ _ hS hp]
  simp only [Program.fieldsOf, Tryd.underlying134]
  by_cases q0 : a0 = b0
  case neg => go_simp
  by_cases q1 : a1 = b1
  case neg => go_simp
  by_cases q2 : a2 = b2
  case neg => go_simp
  by_cases q3 : a3 = b3
  case neg => go_simp
  by_cases q4 : a4 = b4
  case neg => go_simp
  by_cases q5 : a5 = b5
  case neg => go_simp
  by_cases q6 : a6 = b6
  case neg => go_simp
  by_cases q7 : a7 = b7
  case neg => go_simp
  by_cases q8 : a8 = b8
  case neg => go_simp
  by_cases q9 : a9 = b9
  case neg => go_simp
  by_cases q10 : a10 = b10
  case neg => go_simp
  by_cases q11 : a11 = b11
  case neg => go_simp
  by_cases q12 : a12 = b12
  case neg => go_simp
  subst q0 q1 q2 q3 q4 q5 q6 q7 q8 q9 q10 q11 q12
  go_simp

end Go.Proofs.YtomlideijhejfaaDoor
